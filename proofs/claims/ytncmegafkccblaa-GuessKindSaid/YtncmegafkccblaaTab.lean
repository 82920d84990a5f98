/-
  The program's tables: names, shapes, spans; and what the calls that ask them answer.
-/
import Derived.Test.YtncmegafkccblaaRows
import Derived.Test.YtncmegafkccblaaPB
import Derived.WalkKit
import Derived.Below
import Derived.Deep.LoopGhost
namespace Go.Proofs.Ytncmegafkccblaa
open Go.RowKit

/-- The names in their order. -/
def nmL : List ByteArray := [
  ⟨#[110, 111, 112]⟩,
  ⟨#[110, 105, 108]⟩,
  ⟨#[116, 114, 117, 101]⟩,
  ⟨#[102, 97, 108, 115, 101]⟩,
  ⟨#[105, 110, 116]⟩,
  ⟨#[99, 111, 110, 115, 116]⟩,
  ⟨#[102, 117, 110, 99]⟩,
  ⟨#[112, 111, 112]⟩,
  ⟨#[100, 117, 112]⟩,
  ⟨#[115, 119, 97, 112]⟩,
  ⟨#[108, 111, 97, 100]⟩,
  ⟨#[115, 116, 111, 114, 101]⟩,
  ⟨#[97, 100, 100]⟩,
  ⟨#[115, 117, 98]⟩,
  ⟨#[109, 117, 108]⟩,
  ⟨#[100, 105, 118]⟩,
  ⟨#[114, 101, 109]⟩,
  ⟨#[110, 101, 103]⟩,
  ⟨#[97, 110, 100]⟩,
  ⟨#[111, 114]⟩,
  ⟨#[120, 111, 114]⟩,
  ⟨#[110, 111, 116]⟩,
  ⟨#[115, 104, 108]⟩,
  ⟨#[115, 104, 114]⟩,
  ⟨#[101, 120, 116]⟩,
  ⟨#[101, 113]⟩,
  ⟨#[110, 101]⟩,
  ⟨#[108, 116]⟩,
  ⟨#[108, 101]⟩,
  ⟨#[116, 101, 115, 116]⟩,
  ⟨#[102, 108, 105, 112]⟩,
  ⟨#[116, 111, 105, 110, 116]⟩,
  ⟨#[116, 111, 114, 101, 97, 108]⟩,
  ⟨#[115, 105, 110, 103, 108, 101]⟩,
  ⟨#[116, 111, 116, 101, 120, 116]⟩,
  ⟨#[107, 105, 110, 100]⟩,
  ⟨#[102, 108, 111, 111, 114]⟩,
  ⟨#[115, 113, 114, 116]⟩,
  ⟨#[99, 97, 116]⟩,
  ⟨#[99, 117, 116]⟩,
  ⟨#[106, 117, 109, 112]⟩,
  ⟨#[106, 122]⟩,
  ⟨#[106, 110, 122]⟩,
  ⟨#[99, 97, 108, 108]⟩,
  ⟨#[114, 101, 116]⟩,
  ⟨#[116, 104, 114, 111, 119]⟩,
  ⟨#[98, 105, 110, 100]⟩,
  ⟨#[97, 114, 114, 97, 121]⟩,
  ⟨#[114, 101, 99, 111, 114, 100]⟩,
  ⟨#[103, 101, 116]⟩,
  ⟨#[115, 101, 116]⟩,
  ⟨#[112, 117, 115, 104]⟩,
  ⟨#[108, 101, 110]⟩,
  ⟨#[103, 101, 116, 102]⟩,
  ⟨#[115, 101, 116, 102]⟩,
  ⟨#[104, 97, 115, 102]⟩,
  ⟨#[100, 101, 108, 102]⟩,
  ⟨#[107, 101, 121, 115]⟩,
  ⟨#[112, 114, 105, 110, 116]⟩,
  ⟨#[114, 101, 97, 100]⟩,
  ⟨#[115, 112, 97, 119, 110]⟩,
  ⟨#[121, 105, 101, 108, 100]⟩,
  ⟨#[99, 104, 97, 110]⟩,
  ⟨#[115, 101, 110, 100]⟩,
  ⟨#[114, 101, 99, 118]⟩,
  ⟨#[115, 104, 117, 116]⟩,
  ⟨#[98, 105, 99]⟩]
def nm (k : Nat) : ByteArray := nmL.getD k ByteArray.empty
/-- Kind of the operand, how many are taken, how many put. -/
def shL : List (Nat × Nat × Nat) := [
  (0, 0, 0),
  (0, 0, 1),
  (0, 0, 1),
  (0, 0, 1),
  (1, 0, 1),
  (4, 0, 1),
  (5, 0, 1),
  (0, 1, 0),
  (0, 1, 2),
  (0, 2, 2),
  (3, 0, 1),
  (3, 1, 0),
  (0, 2, 1),
  (0, 2, 1),
  (0, 2, 1),
  (0, 2, 1),
  (0, 2, 1),
  (0, 1, 1),
  (0, 2, 1),
  (0, 2, 1),
  (0, 2, 1),
  (0, 1, 1),
  (0, 2, 1),
  (0, 2, 1),
  (7, 1, 1),
  (0, 2, 1),
  (0, 2, 1),
  (0, 2, 1),
  (0, 2, 1),
  (0, 1, 1),
  (0, 1, 1),
  (0, 1, 1),
  (0, 1, 1),
  (0, 1, 1),
  (0, 1, 1),
  (0, 1, 1),
  (0, 1, 1),
  (0, 1, 1),
  (0, 2, 1),
  (0, 3, 1),
  (2, 0, 0),
  (2, 1, 0),
  (2, 1, 0),
  (6, 1, 1),
  (0, 1, 0),
  (0, 1, 0),
  (6, 1, 1),
  (6, 0, 1),
  (0, 0, 1),
  (0, 2, 1),
  (0, 3, 0),
  (0, 2, 0),
  (0, 1, 1),
  (4, 1, 1),
  (4, 2, 0),
  (4, 1, 1),
  (4, 1, 0),
  (0, 1, 1),
  (0, 1, 0),
  (0, 0, 1),
  (6, 1, 0),
  (0, 0, 0),
  (8, 0, 1),
  (0, 2, 0),
  (0, 1, 1),
  (0, 1, 0),
  (0, 2, 1)]
def kd (k : Nat) : Nat := (shL.getD k (0, 0, 0)).1
def tk (k : Nat) : Nat := (shL.getD k (0, 0, 0)).2.1
def pt (k : Nat) : Nat := (shL.getD k (0, 0, 0)).2.2
def spL : List (Int × Int) := [(0, 0), (-9223372036854775808, 9223372036854775807), (0, 1999), (0, 63), (0, 511), (0, 127), (0, 63), (0, 0), (1, 64)]
def lo (k : Nat) : Int := (spL.getD k (0, 0)).1
def hi (k : Nat) : Int := (spL.getD k (0, 0)).2

def S3 (a b c : Int) : Value := .agg #[.int .i64 a, .int .i64 b, .int .i64 c]
def S2 (a b : Int) : Value := .agg #[.int .i64 a, .int .i64 b]
def nmTab : Array Value := (nmL.map Value.string).toArray
def shTab : Array Value := (shL.flatMap fun s => [Value.int .i64 s.1, .int .i64 s.2.1, .int .i64 s.2.2]).toArray
def spTab : Array Value := (spL.flatMap fun s => [Value.int .i64 s.1, .int .i64 s.2]).toArray

theorem of_range {α : Type} (n : Nat) {f g : Nat → α} (h : (List.range n).map f = (List.range n).map g) (k : Nat) (hk : k < n) : f k = g k :=
  (List.map_inj_left.1 h) k (List.mem_range.2 hk)

theorem sh_at (w : World) (k : Nat) (hk : k < 67) : (Instr.index 71 (.agg shTab) (.int .i64 (k : Int))).run Try.prog w = .ok (.agg #[.int .i64 (kd k), .int .i64 (tk k), .int .i64 (pt k)]) w :=
  of_range 67 (f := fun k => (Instr.index 71 (.agg shTab) (.int .i64 ((k : Nat) : Int))).run Try.prog w) (g := fun k => .ok (.agg #[.int .i64 (kd k), .int .i64 (tk k), .int .i64 (pt k)]) w) (by kernel_rfl) k hk
theorem sp_at (w : World) (k : Nat) (hk : k < 9) : (Instr.index 89 (.agg spTab) (.int .i64 (k : Int))).run Try.prog w = .ok (.agg #[.int .i64 (lo k), .int .i64 (hi k)]) w :=
  of_range 9 (f := fun k => (Instr.index 89 (.agg spTab) (.int .i64 ((k : Nat) : Int))).run Try.prog w) (g := fun k => .ok (.agg #[.int .i64 (lo k), .int .i64 (hi k)]) w) (by kernel_rfl) k hk

/-- Some operations one behind the other, that answer values. -/
def runs (P : Program) : List Oper → Act → World → Option (Act × World)
  | [], a, w => some (a, w)
  | o :: r, a, w => match o.guard with
    | some _ => none
    | none => match (execOp a.eval o).run P w with
      | .ok (.value v) w' => runs P r (a.put o.dst v) w'
      | _ => none
theorem wpList_runs {P : Program} {ops : Array Oper} {Q : Exit → Act → World → Prop} {rest : List Oper} {a' : Act} {w' : World} : ∀ (l : List Oper) (a : Act) (w : World),
    runs P l a w = some (a', w') → wpList P ops Q rest a' w' → wpList P ops Q (l ++ rest) a w
  | [], a, w, h, k => by
    simp only [runs, Option.some.injEq, Prod.mk.injEq] at h
    obtain ⟨rfl, rfl⟩ := h
    exact k
  | o :: r, a, w, h, k => by
    rw [runs] at h
    split at h
    · cases h
    · rename_i hg
      split at h
      · rename_i v w2 hv
        refine wpList_plain hg fun K hK => ?_
        unfold Oper.wp
        rw [hv]
        exact hK _ _ (wpList_runs r _ _ h k)
      · cases h
theorem wpList_skip {P : Program} {ops : Array Oper} {Q : Exit → Act → World → Prop} {l : List Oper} {a : Act} {w : World} (m n : Nat) (_ : l.length = m) (a' : Act)
    (h : runs P (l.take n) a w = some (a', w)) (k : wpList P ops Q (l.drop n) a' w) : wpList P ops Q l a w := by
  have := wpList_runs (rest := l.drop n) (l.take n) a w h k
  rwa [List.take_append_drop] at this

set_option maxRecDepth 100000 in
theorem known_any (w : World) (op : Int) : Calls Try.prog 56 #[.int .i64 op] w fun e w' => e = .returned (.bool (decide (0 ≤ op ∧ op < 67))) ∧ w' = w := by
  go_enter Try.func56, Try.ntmps56
  by_cases h0 : 0 ≤ op <;> by_cases h1 : op < 67
  all_goals
    go_wp2
    go_ret
    simp_all

set_option maxRecDepth 100000 in
set_option maxHeartbeats 4000000 in
theorem spanOf_any (w : World) (k : Nat) (h : k < 9) : Calls Try.prog 57 #[.int .i64 k] w fun e w' => e = .returned (.agg #[.int .i64 (lo k), .int .i64 (hi k)]) ∧ Below w.heap.size w w' := by
  have hix := fun w => sp_at w k h
  generalize lo k = a at *
  generalize hi k = b at *
  go_enter Try.func57, Try.ntmps57
  go_wp2_with (refine wpList_skip 12 9 rfl ⟨#[.int .i64 k, undef, .pointer (some ⟨w.heap.size, 0, none⟩), S2 (0) 0, S2 (-9223372036854775808) 9223372036854775807, S2 (0) 1999, S2 (0) 63, S2 (0) 511, S2 (0) 127, S2 (0) 63, S2 (1) 64, .agg spTab, undef, undef], []⟩ (by kernel_rfl) ?_; simp only [List.drop])
  refine bodyPost_ret (v := .agg #[.int .i64 a, .int .i64 b]) ?_ rfl ⟨rfl, (Below.refl _ _).alloc (Nat.le_refl _) _⟩
  rw [results_cell_one rfl]
  go_simp

set_option maxRecDepth 100000 in
set_option maxHeartbeats 4000000 in
theorem shapeOf_any (w : World) (k : Nat) (h : k < 67) : Calls Try.prog 23 #[.int .i64 k] w fun e w' => e = .returned (.agg #[.int .i64 (kd k), .int .i64 (tk k), .int .i64 (pt k)]) ∧ Below w.heap.size w w' := by
  have hix := fun w => sh_at w k h
  generalize ((kd k : Nat) : Int) = a at *
  generalize ((tk k : Nat) : Int) = b at *
  generalize ((pt k : Nat) : Int) = c at *
  go_enter Try.func23, Try.ntmps23
  go_step
  go_step
  go_step
  go_step
  go_step
  go_step
  go_step
  go_step
  go_step
  go_step
  go_step
  refine wpList_skip 71 68 rfl ⟨#[.int .i64 k, undef, .pointer (some ⟨w.heap.size, 0, none⟩), S3 0 0 0, S3 0 0 1, S3 0 0 1, S3 0 0 1, S3 1 0 1, S3 4 0 1, S3 5 0 1, S3 0 1 0, S3 0 1 2, S3 0 2 2, S3 3 0 1, S3 3 1 0, S3 0 2 1, S3 0 2 1, S3 0 2 1, S3 0 2 1, S3 0 2 1, S3 0 1 1, S3 0 2 1, S3 0 2 1, S3 0 2 1, S3 0 1 1, S3 0 2 1, S3 0 2 1, S3 7 1 1, S3 0 2 1, S3 0 2 1, S3 0 2 1, S3 0 2 1, S3 0 1 1, S3 0 1 1, S3 0 1 1, S3 0 1 1, S3 0 1 1, S3 0 1 1, S3 0 1 1, S3 0 1 1, S3 0 1 1, S3 0 2 1, S3 0 3 1, S3 2 0 0, S3 2 1 0, S3 2 1 0, S3 6 1 1, S3 0 1 0, S3 0 1 0, S3 6 1 1, S3 6 0 1, S3 0 0 1, S3 0 2 1, S3 0 3 0, S3 0 2 0, S3 0 1 1, S3 4 1 1, S3 4 2 0, S3 4 1 1, S3 4 1 0, S3 0 1 1, S3 0 1 0, S3 0 0 1, S3 6 1 0, S3 0 0 0, S3 8 0 1, S3 0 2 0, S3 0 1 1, S3 0 1 0, S3 0 2 1, .agg shTab, undef, undef], []⟩ (by kernel_rfl) ?_
  change wpList _ _ _ (_ :: _ :: _ :: []) _ _
  go_wp2
  refine bodyPost_ret (v := .agg #[.int .i64 a, .int .i64 b, .int .i64 c]) ?_ rfl ⟨rfl, (Below.refl _ _).alloc (Nat.le_refl _) _⟩
  rw [results_cell_one rfl]
  go_simp
end Go.Proofs.Ytncmegafkccblaa
