/-
  The calls of the real numbers.
-/
import Derived.Test.YtncmegafkccblaaRArith
namespace Go.Proofs.Ytncmegafkccblaa
open Go.RowKit Ieee

set_option maxRecDepth 100000 in
theorem add_any (a b : Nat) (w : World) : Calls Try.prog 66 #[.int .u64 (a : Int), .int .u64 (b : Int)] w fun e w' => e = .returned (.int .u64 (addN a b : Nat)) ∧ Below w.heap.size w w' := by
  obtain ⟨r, w2, hr, hlt, hb, hc⟩ := fl_add a b w
  have hA := hide (number_any a)
  have hB := hide (number_any b)
  have hC := hide (bits_any r hlt)
  have HB := hide hb
  rw [← hc]
  clear hb hlt hc
  go_enter Try.func66, Try.ntmps66
  go_wp2_with fail
  refine (unhide hA _).mono ?_
  rintro e w1 ⟨rfl, rfl⟩
  go_wp2_with fail
  refine (unhide hB _).mono ?_
  rintro e w1 ⟨rfl, rfl⟩
  go_wp2_with fail
  refine (unhide hC _).mono ?_
  rintro e w1 ⟨rfl, rfl⟩
  go_wp2
  go_ret
  exact ⟨rfl, unhide HB⟩

set_option maxRecDepth 100000 in
theorem mul_any (a b : Nat) (w : World) : Calls Try.prog 68 #[.int .u64 (a : Int), .int .u64 (b : Int)] w fun e w' => e = .returned (.int .u64 (mulN a b : Nat)) ∧ Below w.heap.size w w' := by
  obtain ⟨r, w2, hr, hlt, hb, hc⟩ := fl_mul a b w
  have hA := hide (number_any a)
  have hB := hide (number_any b)
  have hC := hide (bits_any r hlt)
  have HB := hide hb
  rw [← hc]
  clear hb hlt hc
  go_enter Try.func68, Try.ntmps68
  go_wp2_with fail
  refine (unhide hA _).mono ?_
  rintro e w1 ⟨rfl, rfl⟩
  go_wp2_with fail
  refine (unhide hB _).mono ?_
  rintro e w1 ⟨rfl, rfl⟩
  go_wp2_with fail
  refine (unhide hC _).mono ?_
  rintro e w1 ⟨rfl, rfl⟩
  go_wp2
  go_ret
  exact ⟨rfl, unhide HB⟩

set_option maxRecDepth 100000 in
theorem div_any (a b : Nat) (w : World) : Calls Try.prog 69 #[.int .u64 (a : Int), .int .u64 (b : Int)] w fun e w' => e = .returned (.int .u64 (divN a b : Nat)) ∧ Below w.heap.size w w' := by
  obtain ⟨r, w2, hr, hlt, hb, hc⟩ := fl_div a b w
  have hA := hide (number_any a)
  have hB := hide (number_any b)
  have hC := hide (bits_any r hlt)
  have HB := hide hb
  rw [← hc]
  clear hb hlt hc
  go_enter Try.func69, Try.ntmps69
  go_wp2_with fail
  refine (unhide hA _).mono ?_
  rintro e w1 ⟨rfl, rfl⟩
  go_wp2_with fail
  refine (unhide hB _).mono ?_
  rintro e w1 ⟨rfl, rfl⟩
  go_wp2_with fail
  refine (unhide hC _).mono ?_
  rintro e w1 ⟨rfl, rfl⟩
  go_wp2
  go_ret
  exact ⟨rfl, unhide HB⟩

set_option maxRecDepth 100000 in
theorem sub_any (a b : Nat) (hb : b < 18446744073709551616) (w : World) : Calls Try.prog 67 #[.int .u64 (a : Int), .int .u64 (b : Int)] w fun e w' => e = .returned (.int .u64 (subN a b : Nat)) ∧ Below w.heap.size w w' := by
  have hA := hide (neg_any b hb)
  have hB := hide (add_any a (negN b))
  have hS : subN a b = addN a (negN b) := rfl
  rw [hS]
  generalize negN b = n at *
  generalize addN a n = s at *
  clear hS
  go_enter Try.func67, Try.ntmps67
  go_wp2_with fail
  refine (unhide hA _).mono ?_
  rintro e w1 ⟨rfl, rfl⟩
  go_wp2_with fail
  refine (unhide hB _).mono ?_
  rintro e w1 ⟨rfl, hb1⟩
  have HB := hide hb1
  clear hb1
  go_wp2
  go_ret
  exact ⟨rfl, unhide HB⟩

set_option maxRecDepth 100000 in
theorem msqrt_any (x : Nat) (w : World) : Calls Try.prog 78 #[.float .f64 x] w fun e w' => ∃ r, e = .returned (.float .f64 r) ∧ r < 18446744073709551616 ∧ canonN r = sqrtN x ∧ Below w.heap.size w w' := by
  obtain ⟨r, w2, hr, hlt, hb, hc⟩ := fl_sqrt x w
  have HB := hide (And.intro hlt (And.intro hc hb))
  clear hlt hc hb
  go_enter Try.func78, Try.ntmps78
  go_wp2
  go_ret
  exact ⟨r, rfl, unhide HB⟩

set_option maxRecDepth 100000 in
theorem sqrt_any (a : Nat) (w : World) : Calls Try.prog 63 #[.int .u64 (a : Int)] w fun e w' => e = .returned (.int .u64 (sqrtN a : Nat)) ∧ Below w.heap.size w w' := by
  have hA := hide (number_any a)
  have hB := hide (msqrt_any a)
  go_enter Try.func63, Try.ntmps63
  go_wp2_with fail
  refine (unhide hA _).mono ?_
  rintro e w1 ⟨rfl, rfl⟩
  go_wp2_with fail
  refine (unhide hB _).mono ?_
  rintro e w2 ⟨r, rfl, hlt, hc, hb⟩
  have HB := hide hb
  have HC := hide hc
  have hC := hide (bits_any r hlt)
  clear hb hc hlt hA hB
  go_wp2_with fail
  refine (unhide hC _).mono ?_
  rintro e w1 ⟨rfl, rfl⟩
  go_wp2
  go_ret
  exact ⟨by rw [unhide HC]; rfl, unhide HB⟩

def lessN (a b : Nat) : Bool := double.order a b == some .lt
def equalN (a b : Nat) : Bool := double.order a b == some .eq
set_option maxRecDepth 100000 in
theorem less_any (a b : Nat) (w : World) : Calls Try.prog 79 #[.int .u64 (a : Int), .int .u64 (b : Int)] w fun e w' => e = .returned (.bool (lessN a b)) ∧ w' = w := by
  have hA := hide (number_any a)
  have hB := hide (number_any b)
  go_enter Try.func79, Try.ntmps79
  go_wp2_with fail
  refine (unhide hA _).mono ?_
  rintro e w1 ⟨rfl, rfl⟩
  go_wp2_with fail
  refine (unhide hB _).mono ?_
  rintro e w1 ⟨rfl, rfl⟩
  go_wp2
  go_ret
  exact ⟨rfl, rfl⟩

set_option maxRecDepth 100000 in
theorem equal_any (a b : Nat) (w : World) : Calls Try.prog 80 #[.int .u64 (a : Int), .int .u64 (b : Int)] w fun e w' => e = .returned (.bool (equalN a b)) ∧ w' = w := by
  have hA := hide (number_any a)
  have hB := hide (number_any b)
  go_enter Try.func80, Try.ntmps80
  go_wp2_with fail
  refine (unhide hA _).mono ?_
  rintro e w1 ⟨rfl, rfl⟩
  go_wp2_with fail
  refine (unhide hB _).mono ?_
  rintro e w1 ⟨rfl, rfl⟩
  go_wp2
  go_ret
  exact ⟨rfl, rfl⟩

def fromN (n : Int) : Nat := double.write (.number (n < 0) n.natAbs 0)
theorem fromN_lt (n : Int) : fromN n < 18446744073709551616 := double.write_lt _
theorem fromN_notN (n : Int) : isN (fromN n) = false := write_notN _ rfl
set_option maxRecDepth 100000 in
theorem from_any (n : Int) (w : World) : Calls Try.prog 74 #[.int .i64 n] w fun e w' => e = .returned (.int .u64 (fromN n : Nat)) ∧ w' = w := by
  have hop : ∀ w, (convert 2 92 (.int .i64 n)).run Try.prog w = .ok (.float .f64 (fromN n)) w := fun w => run_convert_int_float w 2 92 .i64 .f64 n (by kernel_rfl) (by kernel_rfl)
  have hC := bits_any (fromN n) (fromN_lt n)
  rw [canon_of_notN (fromN_notN n)] at hC
  have hC := hide hC
  generalize fromN n = r at *
  go_enter Try.func74, Try.ntmps74
  go_wp2_with fail
  refine (unhide hC _).mono ?_
  rintro e w1 ⟨rfl, rfl⟩
  go_wp2
  go_ret
  exact ⟨rfl, rfl⟩

/-- The place in the order of all. -/
def keyN (a : Nat) : Int := if a < 9223372036854775808 then (a % 9223372036854775808 : Nat) else -((a % 9223372036854775808 : Nat) : Int)
end Go.Proofs.Ytncmegafkccblaa
