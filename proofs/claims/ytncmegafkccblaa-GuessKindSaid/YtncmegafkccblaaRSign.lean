/-
  Signs that are turned, operands that change places.
-/
import Derived.Test.YtncmegafkccblaaROrd
namespace Go.Proofs.Ytncmegafkccblaa
open Go.RowKit Ieee

def flip (a : Nat) : Nat := if a < 9223372036854775808 then a + 9223372036854775808 else a - 9223372036854775808
theorem flip_lt {a : Nat} (h : a < 18446744073709551616) : flip a < 18446744073709551616 := neg_lt a h
theorem flip_rg {a : Nat} (h : a < 18446744073709551616) : rg (flip a) = rg a := by unfold rg flip; split <;> omega
theorem flip_sg {a : Nat} (h : a < 18446744073709551616) : sg (flip a) = !sg a := by
  rcases Nat.lt_or_ge a 9223372036854775808 with h' | h'
  · rw [sg_false h', sg_true (flip_lt h)]
    · rfl
    · unfold flip; rw [if_pos h']; omega
  · rw [sg_true h h', sg_false]
    · rfl
    · unfold flip; rw [if_neg (by omega)]; omega
theorem flip_flip {a : Nat} (h : a < 18446744073709551616) : flip (flip a) = a := by unfold flip; split <;> split <;> omega
theorem flip_isN {a : Nat} (h : a < 18446744073709551616) : isN (flip a) = isN a := by rw [isN_eq, isN_eq, flip_rg h]
theorem flip_word (s : Bool) {r : Nat} (h : r < 9223372036854775808) : flip (double.word s r) = double.word (!s) r := by
  unfold flip Format.word; rw [dbl_sw]
  cases s
  · show (if r < 9223372036854775808 then r + 9223372036854775808 else r - 9223372036854775808) = 9223372036854775808 + r
    rw [if_pos h]; omega
  · show (if 9223372036854775808 + r < 9223372036854775808 then 9223372036854775808 + r + 9223372036854775808 else 9223372036854775808 + r - 9223372036854775808) = r
    rw [if_neg (by omega)]; omega
theorem flip_read {a : Nat} (h : a < 18446744073709551616) : double.read (flip a) = (double.read a).opposite := by
  rw [read_eq, read_eq, flip_rg h, flip_sg h]
  by_cases h1 : rg a < 4503599627370496
  · rw [if_pos h1, if_pos h1]; rfl
  · rw [if_neg h1, if_neg h1]
    by_cases h2 : rg a < 9218868437227405312
    · rw [if_pos h2, if_pos h2]; rfl
    · rw [if_neg h2, if_neg h2]
      by_cases h3 : rg a = 9218868437227405312
      · rw [if_pos h3, if_pos h3]; rfl
      · rw [if_neg h3, if_neg h3]; rfl
theorem flip_write (d : Datum) (h : d.isNaN = false) : flip (double.write d) = double.write d.opposite := by
  cases d with
  | number s m e =>
    show flip (double.nearest s m e) = double.nearest (!s) m e
    unfold Format.nearest
    dsimp only
    split
    · exact flip_word s (by omega)
    · rw [dbl_inf]; exact flip_word s (Nat.lt_of_le_of_lt (Nat.min_le_right ..) (by omega))
  | infinity s => exact flip_word s (by rw [dbl_inf]; omega)
  | nan => cases h
theorem neg_of_notN {a : Nat} (h : a < 18446744073709551616) (n : isN a = false) : negN a = flip a := canon_of_notN (by rw [← flip_isN h] at n; exact n)
theorem neg_of_N {a : Nat} (h : a < 18446744073709551616) (n : isN a = true) : negN a = 9221120237041090560 := canon_of_N (by rw [← flip_isN h] at n; exact n)
theorem neg_lt64 {a : Nat} (h : a < 18446744073709551616) : negN a < 18446744073709551616 := by
  cases n : isN a
  · rw [neg_of_notN h n]; exact flip_lt h
  · rw [neg_of_N h n]; omega
theorem one_N : isN 9221120237041090560 = true := by decide
theorem neg_isN {a : Nat} (h : a < 18446744073709551616) : isN (negN a) = isN a := by
  cases n : isN a
  · rw [neg_of_notN h n, flip_isN h, n]
  · rw [neg_of_N h n, one_N]
theorem neg_one : negN 9221120237041090560 = 9221120237041090560 := by decide
theorem neg_neg {a : Nat} (h : a < 18446744073709551616) : negN (negN a) = canonN a := by
  cases n : isN a
  · rw [neg_of_notN h n, neg_of_notN (flip_lt h) (by rw [flip_isN h, n]), flip_flip h, canon_of_notN n]
  · rw [neg_of_N h n, neg_one, canon_of_N n]

theorem sum_comm (a b : Datum) : a.sum b = b.sum a := by
  cases a <;> cases b <;> try rfl
  · rename_i s m i t n j
    simp only [Datum.sum]
    rw [Int.min_comm i j, Int.add_comm (signed s m _), Bool.and_comm]
  · rename_i s t
    cases s <;> cases t <;> rfl
theorem product_comm (a b : Datum) : a.product b = b.product a := by
  cases a <;> cases b <;> try rfl
  · rename_i s m i t n j
    simp only [Datum.product]
    rw [Bool.xor_comm, Nat.mul_comm, Int.add_comm]
  · rename_i s t
    cases s <;> cases t <;> rfl
theorem add_comm' (a b : Nat) : addN a b = addN b a := by unfold addN Format.add; rw [sum_comm]
theorem mul_comm' (a b : Nat) : mulN a b = mulN b a := by unfold mulN Format.mul; rw [product_comm]

theorem product_opp (a b : Datum) : a.opposite.product b = (a.product b).map Datum.opposite := by
  cases a <;> cases b <;> try rfl
  · simp [Datum.opposite, Datum.product]
  · rename_i s m i t
    simp only [Datum.opposite, Datum.product]
    split <;> simp [Datum.opposite]
  · rename_i s t n j
    simp only [Datum.opposite, Datum.product]
    split <;> simp [Datum.opposite]
  · simp [Datum.opposite, Datum.product]
theorem quotient_opp (k : Nat) (a b : Datum) : a.opposite.quotient k b = (a.quotient k b).map Datum.opposite := by
  cases a <;> cases b <;> try rfl
  · rename_i s m i t n j
    simp only [Datum.opposite, Datum.quotient]
    split
    · split <;> simp [Datum.opposite]
    · simp [Datum.opposite]
  · simp [Datum.opposite, Datum.quotient]
  · simp [Datum.opposite, Datum.quotient]
theorem quotient_opp2 (k : Nat) (a b : Datum) : a.quotient k b.opposite = (a.quotient k b).map Datum.opposite := by
  cases a <;> cases b <;> try rfl
  · rename_i s m i t n j
    simp only [Datum.opposite, Datum.quotient]
    split
    · split <;> simp [Datum.opposite]
    · simp [Datum.opposite]
  · simp [Datum.opposite, Datum.quotient]
  · simp [Datum.opposite, Datum.quotient]

theorem write_lt64 (d : Datum) : double.write d < 18446744073709551616 := double.write_lt d
/-- An answer that is turned. -/
theorem map_opp (o : Option Datum) (h : ∀ d, o = some d → d.isNaN = false) : ((o.map Datum.opposite).map double.write).getD 9221120237041090560 = negN ((o.map double.write).getD 9221120237041090560) := by
  cases o with
  | none => exact neg_one.symm
  | some d =>
    show double.write d.opposite = negN (double.write d)
    rw [neg_of_notN (write_lt64 d) (write_notN d (h d rfl)), flip_write d (h d rfl)]
theorem nanL (f : Datum → Datum → Option Datum) (hf : ∀ s t b, f (.nan s t) b = none) {a : Nat} (n : isN a = true) (b : Nat) : ((f (double.read a) (double.read b)).map double.write).getD 9221120237041090560 = 9221120237041090560 := by
  rw [read_N a n, hf]; rfl
theorem nanR (f : Datum → Datum → Option Datum) (hf : ∀ s t b, f b (.nan s t) = none) (a : Nat) {b : Nat} (n : isN b = true) : ((f (double.read a) (double.read b)).map double.write).getD 9221120237041090560 = 9221120237041090560 := by
  rw [read_N b n, hf]; rfl
theorem sum_nanL (s : Bool) (t : Nat) (b : Datum) : (Datum.nan s t).sum b = none := by cases b <;> rfl
theorem sum_nanR (s : Bool) (t : Nat) (b : Datum) : b.sum (Datum.nan s t) = none := by cases b <;> rfl
theorem product_nanL (s : Bool) (t : Nat) (b : Datum) : (Datum.nan s t).product b = none := by cases b <;> rfl
theorem product_nanR (s : Bool) (t : Nat) (b : Datum) : b.product (Datum.nan s t) = none := by cases b <;> rfl
theorem quotient_nanL (k : Nat) (s : Bool) (t : Nat) (b : Datum) : (Datum.nan s t).quotient k b = none := by cases b <;> rfl
theorem quotient_nanR (k : Nat) (s : Bool) (t : Nat) (b : Datum) : b.quotient k (Datum.nan s t) = none := by cases b <;> rfl
theorem add_NL {a : Nat} (n : isN a = true) (b : Nat) : addN a b = 9221120237041090560 := nanL Datum.sum sum_nanL n b
theorem add_NR (a : Nat) {b : Nat} (n : isN b = true) : addN a b = 9221120237041090560 := nanR Datum.sum sum_nanR a n
theorem mul_NL {a : Nat} (n : isN a = true) (b : Nat) : mulN a b = 9221120237041090560 := nanL Datum.product product_nanL n b
theorem mul_NR (a : Nat) {b : Nat} (n : isN b = true) : mulN a b = 9221120237041090560 := nanR Datum.product product_nanR a n
theorem div_NL {a : Nat} (n : isN a = true) (b : Nat) : divN a b = 9221120237041090560 := nanL (Datum.quotient 54) (quotient_nanL 54) n b
theorem div_NR (a : Nat) {b : Nat} (n : isN b = true) : divN a b = 9221120237041090560 := nanR (Datum.quotient 54) (quotient_nanR 54) a n

theorem mul_neg {a : Nat} (h : a < 18446744073709551616) (b : Nat) : mulN (negN a) b = negN (mulN a b) := by
  cases n : isN a
  · rw [neg_of_notN h n]
    unfold mulN Format.mul
    rw [flip_read h, product_opp]
    exact map_opp _ fun d e => product_notN _ _ d e
  · rw [neg_of_N h n, mul_NL one_N, mul_NL n, neg_one]
theorem mul_neg2 (a : Nat) {b : Nat} (h : b < 18446744073709551616) : mulN a (negN b) = negN (mulN a b) := by
  rw [mul_comm', mul_neg h, mul_comm']
theorem div_neg {a : Nat} (h : a < 18446744073709551616) (b : Nat) : divN (negN a) b = negN (divN a b) := by
  cases n : isN a
  · rw [neg_of_notN h n]
    unfold divN Format.div
    rw [flip_read h, quotient_opp]
    exact map_opp _ fun d e => quotient_notN _ _ _ d e
  · rw [neg_of_N h n, div_NL one_N, div_NL n, neg_one]
theorem div_neg2 (a : Nat) {b : Nat} (h : b < 18446744073709551616) : divN a (negN b) = negN (divN a b) := by
  cases n : isN b
  · rw [neg_of_notN h n]
    unfold divN Format.div
    rw [flip_read h, quotient_opp2]
    exact map_opp _ fun d e => quotient_notN _ _ _ d e
  · rw [neg_of_N h n, div_NR _ one_N, div_NR _ n, neg_one]
theorem signed_not (s : Bool) (m k : Nat) : signed (!s) m k = -signed s m k := by
  unfold signed; cases s <;> simp
/-- A sum is a zero, or turns with its parts. -/
theorem sum_opp (a b : Datum) : (∃ s e, a.sum b = some (.number s 0 e)) ∨ a.opposite.sum b.opposite = (a.sum b).map Datum.opposite := by
  cases a <;> cases b <;> try (exact .inr rfl)
  · rename_i s m i t n j
    simp only [Datum.opposite, Datum.sum, signed_not, ← Int.neg_add]
    generalize signed s m (i - min i j).toNat + signed t n (j - min i j).toNat = T
    by_cases hT : T = 0
    · left; subst hT; exact ⟨_, _, rfl⟩
    · right
      have : -T ≠ 0 := by omega
      simp [hT, this, Datum.opposite]
      rcases Int.lt_or_gt_of_ne hT with h | h
      · rw [decide_eq_false (by omega), decide_eq_true (by omega)]; rfl
      · rw [decide_eq_true (by omega), decide_eq_false (by omega)]; rfl
  · rename_i s t
    right
    cases s <;> cases t <;> rfl
theorem add_neg {a b : Nat} (ha : a < 18446744073709551616) (hb : b < 18446744073709551616) (hz : rg (addN a b) ≠ 0) : addN (negN a) (negN b) = negN (addN a b) := by
  cases na : isN a
  · cases nb : isN b
    · rw [neg_of_notN ha na, neg_of_notN hb nb]
      unfold addN Format.add at hz ⊢
      rw [flip_read ha, flip_read hb]
      rcases sum_opp (double.read a) (double.read b) with ⟨s, e, h⟩ | h
      · exfalso
        apply hz
        rw [h]
        show double.nearest s 0 e % _ = 0
        unfold Format.nearest
        rw [if_pos rfl, word_mod _ (by omega)]
      · rw [h]
        exact map_opp _ fun d e => sum_notN _ _ d e
    · rw [neg_of_N hb nb, add_NR _ one_N, add_NR _ nb, neg_one]
  · rw [neg_of_N ha na, add_NL one_N, add_NL na, neg_one]
theorem add_lt64 (a b : Nat) : addN a b < 18446744073709551616 := by
  unfold addN
  cases h : double.add a b with
  | none => decide
  | some r => exact double.add_lt h
theorem mul_lt64 (a b : Nat) : mulN a b < 18446744073709551616 := by
  unfold mulN
  cases h : double.mul a b with
  | none => decide
  | some r => exact double.mul_lt h
theorem div_lt64 (a b : Nat) : divN a b < 18446744073709551616 := by
  unfold divN
  cases h : double.div a b with
  | none => decide
  | some r => exact double.div_lt h
theorem sqrt_lt64 (a : Nat) : sqrtN a < 18446744073709551616 := by
  unfold sqrtN
  cases h : double.sqrt a with
  | none => decide
  | some r => exact double.sqrt_lt h
end Go.Proofs.Ytncmegafkccblaa
