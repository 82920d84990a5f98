/-
  What the calls of the real numbers answer: arithmetic.
-/
import Derived.Test.YtncmegafkccblaaRWalk
namespace Go.Proofs.Ytncmegafkccblaa
open Go.RowKit Ieee

theorem word_mod (neg : Bool) {r : Nat} (h : r < 9223372036854775808) : double.word neg r % 9223372036854775808 = r := by
  unfold Format.word; rw [dbl_sw]; split <;> omega
theorem word_lt64 (neg : Bool) {r : Nat} (h : r < 9223372036854775808) : double.word neg r < 18446744073709551616 := by
  unfold Format.word; rw [dbl_sw]; split <;> omega
theorem nearest_notN (neg : Bool) (m : Nat) (e : Int) : isN (double.nearest neg m e) = false := by
  unfold isN
  rw [decide_eq_false_iff_not]
  unfold Format.nearest
  dsimp only
  split
  · rw [word_mod _ (by omega)]; omega
  · rw [dbl_inf, word_mod]
    · exact Nat.not_lt.2 (Nat.min_le_right ..)
    · exact Nat.lt_of_le_of_lt (Nat.min_le_right ..) (by omega)
theorem write_notN (d : Datum) (h : d.isNaN = false) : isN (double.write d) = false := by
  cases d with
  | number neg m e => exact nearest_notN neg m e
  | infinity neg =>
    unfold isN; rw [decide_eq_false_iff_not]
    show ¬ _ < double.word neg double.infRung % _
    rw [dbl_inf, word_mod _ (by omega)]; omega
  | nan => cases h
theorem sum_notN (a b d : Datum) (h : a.sum b = some d) : d.isNaN = false := by
  cases a <;> cases b <;> simp only [Datum.sum] at h
  all_goals first | (cases h; done) | skip
  all_goals first | (split at h <;> first | (cases h; done) | (cases h; rfl)) | (cases h; rfl)
theorem product_notN (a b d : Datum) (h : a.product b = some d) : d.isNaN = false := by
  cases a <;> cases b <;> simp only [Datum.product] at h
  all_goals first | (cases h; done) | skip
  all_goals first | (split at h <;> first | (cases h; done) | (cases h; rfl)) | (cases h; rfl)
theorem quotient_notN (k : Nat) (a b d : Datum) (h : a.quotient k b = some d) : d.isNaN = false := by
  cases a <;> cases b <;> simp only [Datum.quotient] at h
  all_goals first | (cases h; done) | skip
  all_goals first | (split at h <;> first | (cases h; done) | (split at h <;> first | (cases h; done) | (cases h; rfl)) | (cases h; rfl)) | (cases h; rfl)
theorem root_notN (k : Nat) (a d : Datum) (h : a.root k = some d) : d.isNaN = false := by
  cases a <;> simp only [Datum.root] at h
  all_goals first | (cases h; done) | skip
  · split at h
    · cases h; rfl
    · split at h
      · cases h
      · cases h; rfl
  · split at h
    · cases h
    · cases h; rfl
theorem map_write_notN {d : Option Datum} {r : Nat} (h : d.map double.write = some r) (hd : ∀ x, d = some x → x.isNaN = false) : isN r = false := by
  cases d with
  | none => cases h
  | some x => cases h; exact write_notN x (hd x rfl)
theorem add_notN {x y r : Nat} (h : double.add x y = some r) : isN r = false := map_write_notN h fun d e => sum_notN _ _ d e
theorem mul_notN {x y r : Nat} (h : double.mul x y = some r) : isN r = false := map_write_notN h fun d e => product_notN _ _ d e
theorem div_notN {x y r : Nat} (h : double.div x y = some r) : isN r = false := map_write_notN h fun d e => quotient_notN _ _ _ d e
theorem sqrt_notN {x r : Nat} (h : double.sqrt x = some r) : isN r = false := map_write_notN h fun d e => root_notN _ _ d e

def addN (a b : Nat) : Nat := (double.add a b).getD 9221120237041090560
def subN (a b : Nat) : Nat := addN a (negN b)
def mulN (a b : Nat) : Nat := (double.mul a b).getD 9221120237041090560
def divN (a b : Nat) : Nat := (double.div a b).getD 9221120237041090560
def sqrtN (a : Nat) : Nat := (double.sqrt a).getD 9221120237041090560

theorem canon_of_notN {r : Nat} (h : isN r = false) : canonN r = r := by unfold canonN; rw [h]; rfl
theorem canon_of_N {r : Nat} (h : isN r = true) : canonN r = 9221120237041090560 := by unfold canonN; rw [h]; rfl

/-- A NaN out of the tape. -/
def tapeN (w : World) (x y : Nat) : Nat := Question.cut (.nanBits .f64 x y) (w.tape w.drawn (.nanBits .f64 x y))
theorem tapeN_N (w : World) (x y : Nat) : isN (tapeN w x y) = true ∧ tapeN w x y < 18446744073709551616 := by
  unfold tapeN isN
  generalize w.tape w.drawn (.nanBits .f64 x y) = t
  show decide (9218868437227405312 < (t % 2 * 2 ^ 63 + 0x7ff0000000000000 + 1 + t / 2 % (2 ^ 52 - 1)) % 9223372036854775808) = true ∧ (t % 2 * 2 ^ 63 + 0x7ff0000000000000 + 1 + t / 2 % (2 ^ 52 - 1)) < 18446744073709551616
  have h1 : t % 2 < 2 := Nat.mod_lt _ (by decide)
  have h2 : t / 2 % (2 ^ 52 - 1) < 2 ^ 52 - 1 := Nat.mod_lt _ (by decide)
  rw [decide_eq_true_eq]
  generalize t / 2 % (2 ^ 52 - 1) = q at *
  obtain h | h : t % 2 = 0 ∨ t % 2 = 1 := by omega
  · rw [h]; omega
  · rw [h]; omega

theorem below_drew (w : World) : Below w.heap.size w w.drew := ⟨rfl, rfl, rfl, Nat.le_refl _, fun _ _ => rfl⟩

theorem fl_add (x y : Nat) (w : World) : ∃ r w', (binOp .add 92 (.float .f64 x) (.float .f64 y)).run Try.prog w = .ok (.float .f64 r) w' ∧ r < 18446744073709551616 ∧ Below w.heap.size w w' ∧ canonN r = addN x y := by
  cases h : double.add x y with
  | some r => exact ⟨r, w, run_float_arith w .add 92 .f64 x y r h, double.add_lt h, Below.refl _ _, by rw [canon_of_notN (add_notN h), addN, h]; rfl⟩
  | none =>
    refine ⟨tapeN w x y, w.drew, ?_, (tapeN_N w x y).2, below_drew w, by rw [canon_of_N (tapeN_N w x y).1, addN, h]; rfl⟩
    have h' : FloatKind.f64.format.add x y = none := h
    simp [binOp, Op.floatArith, h']
    rfl
theorem fl_mul (x y : Nat) (w : World) : ∃ r w', (binOp .mul 92 (.float .f64 x) (.float .f64 y)).run Try.prog w = .ok (.float .f64 r) w' ∧ r < 18446744073709551616 ∧ Below w.heap.size w w' ∧ canonN r = mulN x y := by
  cases h : double.mul x y with
  | some r => exact ⟨r, w, run_float_arith w .mul 92 .f64 x y r h, double.mul_lt h, Below.refl _ _, by rw [canon_of_notN (mul_notN h), mulN, h]; rfl⟩
  | none =>
    refine ⟨tapeN w x y, w.drew, ?_, (tapeN_N w x y).2, below_drew w, by rw [canon_of_N (tapeN_N w x y).1, mulN, h]; rfl⟩
    have h' : FloatKind.f64.format.mul x y = none := h
    simp [binOp, Op.floatArith, h']
    rfl
theorem fl_div (x y : Nat) (w : World) : ∃ r w', (binOp .quo 92 (.float .f64 x) (.float .f64 y)).run Try.prog w = .ok (.float .f64 r) w' ∧ r < 18446744073709551616 ∧ Below w.heap.size w w' ∧ canonN r = divN x y := by
  cases h : double.div x y with
  | some r => exact ⟨r, w, run_float_arith w .quo 92 .f64 x y r h, double.div_lt h, Below.refl _ _, by rw [canon_of_notN (div_notN h), divN, h]; rfl⟩
  | none =>
    refine ⟨tapeN w x y, w.drew, ?_, (tapeN_N w x y).2, below_drew w, by rw [canon_of_N (tapeN_N w x y).1, divN, h]; rfl⟩
    have h' : FloatKind.f64.format.div x y = none := h
    simp [binOp, Op.floatArith, h']
    rfl
theorem ext_sqrt (args : Array Value) (w : World) : (callFunc 86 args).run Try.prog w = ((Extern.MathSqrt.sqrt args).run Try.prog w).andThen fun v w' => .ok (.value v) w' :=
  run_callFunc_extern (e := Extern.MathSqrt.sqrt) Try.func86 (by kernel_rfl) (by kernel_rfl) (by kernel_rfl) (by kernel_rfl) args w
theorem ext_floor (args : Array Value) (w : World) : (callFunc 83 args).run Try.prog w = ((Extern.MathFloor.toIntegral "math.archFloor" .down args).run Try.prog w).andThen fun v w' => .ok (.value v) w' :=
  run_callFunc_extern (e := Extern.MathFloor.toIntegral "math.archFloor" .down) Try.func83 (by kernel_rfl) (by kernel_rfl) (by kernel_rfl) (by kernel_rfl) args w
theorem sqrt_body (x : Nat) : Extern.MathSqrt.sqrt #[.float .f64 x] = (match double.sqrt x with | some r => pure (.float .f64 r) | none => do pure (.float .f64 (← choose (.nanBits .f64 x x)))) := rfl
theorem fl_sqrt (x : Nat) (w : World) : ∃ r w', (callFunc 86 #[.float .f64 x]).run Try.prog w = .ok (.value (.float .f64 r)) w' ∧ r < 18446744073709551616 ∧ Below w.heap.size w w' ∧ canonN r = sqrtN x := by
  cases h : double.sqrt x with
  | some r =>
    refine ⟨r, w, ?_, double.sqrt_lt h, Below.refl _ _, by rw [canon_of_notN (sqrt_notN h), sqrtN, h]; rfl⟩
    rw [ext_sqrt, sqrt_body, h]
    rfl
  | none =>
    refine ⟨tapeN w x x, w.drew, ?_, (tapeN_N w x x).2, below_drew w, by rw [canon_of_N (tapeN_N w x x).1, sqrtN, h]; rfl⟩
    rw [ext_sqrt, sqrt_body, h]
    rfl
/-- The floor. -/
def floorN (a : Nat) : Nat := if isN a then 9221120237041090560 else double.write ((double.read a).integral .down)
def sg (a : Nat) : Bool := a / 9223372036854775808 % 2 == 1
def rg (a : Nat) : Nat := a % 9223372036854775808
theorem read_eq (a : Nat) : double.read a = if rg a < 4503599627370496 then .number (sg a) (rg a) (-1074) else if rg a < 9218868437227405312 then .number (sg a) (4503599627370496 + rg a % 4503599627370496) (-1074 + (rg a / 4503599627370496 - 1 : Nat)) else if rg a = 9218868437227405312 then .infinity (sg a) else .nan (sg a) (rg a - 9218868437227405312) := rfl
theorem isN_eq (a : Nat) : isN a = decide (9218868437227405312 < rg a) := rfl
theorem read_isN (a : Nat) : (double.read a).isNaN = isN a := by
  rw [read_eq, isN_eq]
  by_cases h1 : rg a < 4503599627370496
  · rw [if_pos h1, decide_eq_false_iff_not.2 (by omega)]; rfl
  · rw [if_neg h1]
    by_cases h2 : rg a < 9218868437227405312
    · rw [if_pos h2, decide_eq_false_iff_not.2 (by omega)]; rfl
    · rw [if_neg h2]
      by_cases h3 : rg a = 9218868437227405312
      · rw [if_pos h3, decide_eq_false_iff_not.2 (by omega)]; rfl
      · rw [if_neg h3, decide_eq_true_iff.2 (by omega)]; rfl
theorem read_nan (a : Nat) (s : Bool) (t : Nat) (h : double.read a = .nan s t) : isN a = true := by rw [← read_isN, h]; rfl
theorem floor_num (x : Nat) (s : Bool) (m : Nat) (e : Int) (h : double.read x = .number s m e) : Extern.MathFloor.toIntegral "math.archFloor" .down #[.float .f64 x] = pure (.float .f64 (double.write ((double.read x).integral .down))) := by
  show ((match double.read x with | .nan s t => _ | d => pure (Value.float .f64 (double.write (d.integral .down)))) : Sem Value) = (_ : Sem Value)
  rw [h]
theorem floor_inf (x : Nat) (s : Bool) (h : double.read x = .infinity s) : Extern.MathFloor.toIntegral "math.archFloor" .down #[.float .f64 x] = pure (.float .f64 (double.write ((double.read x).integral .down))) := by
  show ((match double.read x with | .nan s t => _ | d => pure (Value.float .f64 (double.write (d.integral .down)))) : Sem Value) = (_ : Sem Value)
  rw [h]
theorem or_quiet_lt (t : Nat) (h : t < 4503599627370496) : t ||| 2251799813685248 < 4503599627370496 := Nat.or_lt_two_pow (n := 52) h (by decide)
theorem or_quiet_pos (t : Nat) : 0 < t ||| 2251799813685248 := Nat.lt_of_lt_of_le (by decide) Nat.right_le_or
theorem read_nan_lt (a : Nat) (s : Bool) (t : Nat) (h : double.read a = .nan s t) : t < 4503599627370496 := by
  rw [read_eq] at h
  have hr : rg a < 9223372036854775808 := Nat.mod_lt _ (by decide)
  by_cases h1 : rg a < 4503599627370496
  · rw [if_pos h1] at h; cases h
  · rw [if_neg h1] at h
    by_cases h2 : rg a < 9218868437227405312
    · rw [if_pos h2] at h; cases h
    · rw [if_neg h2] at h
      by_cases h3 : rg a = 9218868437227405312
      · rw [if_pos h3] at h; cases h
      · rw [if_neg h3] at h; cases h; omega
theorem fl_floor (x : Nat) (hx : x < 18446744073709551616) (w : World) : ∃ r w', (callFunc 83 #[.float .f64 x]).run Try.prog w = .ok (.value (.float .f64 r)) w' ∧ r < 18446744073709551616 ∧ Below w.heap.size w w' ∧ canonN r = floorN x := by
  cases h : double.read x with
  | number s m e =>
    have hN : isN x = false := by rw [← read_isN, h]; rfl
    refine ⟨double.write ((double.read x).integral .down), w, ?_, double.write_lt _, Below.refl _ _, ?_⟩
    · rw [ext_floor, floor_num x s m e h]; rfl
    · rw [canon_of_notN (write_notN _ (by rw [h]; rfl)), floorN, hN]; rfl
  | infinity s =>
    have hN : isN x = false := by rw [← read_isN, h]; rfl
    refine ⟨double.write ((double.read x).integral .down), w, ?_, double.write_lt _, Below.refl _ _, ?_⟩
    · rw [ext_floor, floor_inf x s h]; rfl
    · rw [canon_of_notN (write_notN _ (by rw [h]; rfl)), floorN, hN]; rfl
  | nan s t =>
    have hN := read_nan x s t h
    have hF : floorN x = 9221120237041090560 := by unfold floorN; rw [hN]; rfl
    have hR : ∃ r w', (callFunc 83 #[.float .f64 x]).run Try.prog w = .ok (.value (.float .f64 r)) w' ∧ (r = x ∨ r = double.write (.nan s (t ||| 2251799813685248))) ∧ Below w.heap.size w w' := by
      rw [ext_floor]
      by_cases hq : double.quiet t = t
      · refine ⟨x, w, ?_, .inl rfl, Below.refl _ _⟩
        have e : Extern.MathFloor.toIntegral "math.archFloor" .down #[.float .f64 x] = pure (.float .f64 x) := by
          show ((match double.read x with | .nan s t => (if double.quiet t = t then pure (Value.float .f64 x) else _) | d => pure (Value.float .f64 (double.write (d.integral .down)))) : Sem Value) = (_ : Sem Value)
          rw [h]
          exact if_pos hq
        rw [e]; rfl
      · have e : ∃ nm, Extern.MathFloor.toIntegral "math.archFloor" .down #[.float .f64 x] = (choose (.extern nm 2)).bind fun kept => pure (.float .f64 (if kept == 1 then x else double.write (.nan s (double.quiet t)))) := by
          refine ⟨ "math.Floor,Ceil,Trunc,RoundToEven.signallingNaN kept", ?_⟩
          show ((match double.read x with | .nan s t => (if double.quiet t = t then pure (Value.float .f64 x) else (choose (.extern _ 2)).bind fun kept => pure (Value.float .f64 (if kept == 1 then x else double.write (.nan s (double.quiet t))))) | d => pure (Value.float .f64 (double.write (d.integral .down)))) : Sem Value) = (_ : Sem Value)
          rw [h]
          exact if_neg hq
        obtain ⟨nm, e⟩ := e
        rw [e]
        refine ⟨if (Question.cut (.extern nm 2) (w.tape w.drawn (.extern nm 2))) == 1 then x else double.write (.nan s (double.quiet t)), w.drew, rfl, ?_, below_drew w⟩
        split
        · exact .inl rfl
        · exact .inr rfl
    obtain ⟨r, w', hr, hrr, hb⟩ := hR
    have ht := read_nan_lt x s t h
    have hq : rg (double.write (.nan s (t ||| 2251799813685248))) = 9218868437227405312 + (t ||| 2251799813685248) := by
      show double.word s (9218868437227405312 + (t ||| 2251799813685248) % 4503599627370496) % 9223372036854775808 = _
      have h1 := or_quiet_lt t ht
      rw [Nat.mod_eq_of_lt h1, word_mod]
      omega
    have hQ : isN (double.write (.nan s (t ||| 2251799813685248))) = true := by
      rw [isN_eq, hq, decide_eq_true_iff]; have := or_quiet_pos t; omega
    rcases hrr with rfl | rfl
    · exact ⟨r, w', hr, hx, hb, by rw [hF, canon_of_N hN]⟩
    · exact ⟨_, w', hr, double.write_lt _, hb, by rw [hF, canon_of_N hQ]⟩
end Go.Proofs.Ytncmegafkccblaa
