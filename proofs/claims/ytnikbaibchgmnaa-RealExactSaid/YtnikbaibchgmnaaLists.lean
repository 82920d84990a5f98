/-
  Lists of whole numbers in memory.
-/
import Derived.Test.YtnikbaibchgmnaaRows
import Derived.Test.YtnikbaibchgmnaaDigits
import Derived.Test.YtnikbaibchgmnaaWalk
import Derived.WalkKit
import Derived.Below
import Derived.Deep.AppendLies
import Derived.Deep.QuietTactic
import Derived.BigQuiet
import Derived.BigRegion
import Derived.Deep.RegionLaw
import Derived.Deep.LoopGhost
import Derived.OwnWalk
import Derived.KernelRfl
import Derived.Maps.AppendAt
import Derived.Laws.ShiftsVarLaws
namespace Go.Proofs.Ytnikbaibchgmnaa
open Go.RowKit

theorem Try.info22 : (Try.prog.info? 22).map (fun i => (i.zero, i.size, i.bytes)) = some (some (.int .u64 0), 1, 8) := by kernel_rfl
theorem addr_add0 (g i : Nat) : (⟨g, 0, none⟩ : Addr).add i = ⟨g, i, none⟩ := by unfold Addr.add; split <;> simp_all
/-- A number as a value. -/
def Wd (z : Nat) : Value := .int .u64 (z : Int)
/-- The slice v reads as the numbers xs. -/
def Rd (w : World) (v : Value) (xs : List Nat) : Prop :=
  (v = .slice none 0 0 ∧ xs = []) ∨ ∃ b off cap, v = .slice (some ⟨b, off, none⟩) xs.length cap ∧ xs.length ≤ cap ∧ cap ≤ maxLen ∧ b < w.heap.size ∧ ∀ i, i < xs.length → w.cell? ⟨b, off + i, none⟩ = some (.int .u64 (xs.getD i 0 : Nat))
theorem Rd.of_own {w : World} {base : Nat} {v : Value} {xs : List Nat} (h : w.ownsRow base 22 1 v xs.length (xs.map Wd)) : Rd w v xs := by
  have hl := h.lt
  have hcs : ∀ g, v.ownBlock = some g → _ := fun g => @World.ownsRow.cells w base 22 1 v xs.length (xs.map Wd) h g
  rcases h.2 with ⟨rfl, h0⟩ | ⟨g, cap, cur, rfl, hb, hg, hn, hc, hs, ht⟩
  · exact .inl ⟨rfl, List.eq_nil_of_length_eq_zero h0⟩
  · refine .inr ⟨g, 0, cap, rfl, hn, hc, (hl g rfl).2, fun i hi => ?_⟩
    have := hcs g rfl i (Wd (xs.getD i 0)) (by simp [List.getD, hi])
    rw [addr_add0] at this
    simpa [Wd] using this
theorem Rd.below {w w' : World} {v : Value} {xs : List Nat} (h : Rd w v xs) (f : Below w.heap.size w w') : Rd w' v xs := by
  rcases h with h | ⟨b, off, cap, rfl, h1, h2, h3, h4⟩
  · exact .inl h
  · exact .inr ⟨b, off, cap, rfl, h1, h2, Nat.lt_of_lt_of_le h3 f.size, fun i hi => (f.cell (p := ⟨b, off + i, none⟩) h3).trans (h4 i hi)⟩
theorem Rd.shapeR {w : World} {v : Value} {xs : List Nat} (h : Rd w v xs) : ∃ a cap, v = .slice a xs.length cap ∧ xs.length ≤ cap ∧ cap ≤ maxLen := by
  rcases h with ⟨rfl, rfl⟩ | ⟨b, off, cap, rfl, h1, h2, _⟩
  · exact ⟨none, 0, rfl, Nat.le_refl _, Nat.zero_le _⟩
  · exact ⟨_, cap, rfl, h1, h2⟩
theorem Rd.at {w : World} {a : Option Addr} {len cap : Nat} {xs : List Nat} (h : Rd w (.slice a len cap) xs) (i : Nat) (hi : i < xs.length) : ∃ b off, a = some ⟨b, off, none⟩ ∧ b < w.heap.size ∧ w.cell? ⟨b, off + i, none⟩ = some (.int .u64 (xs.getD i 0 : Nat)) := by
  rcases h with ⟨_, rfl⟩ | ⟨b, off, cap', e, _, _, hb, hc⟩
  · simp at hi
  · simp only [Value.slice.injEq] at e
    exact ⟨b, off, e.1, hb, hc i hi⟩
/-- What holds of a row that is made number by number. -/
def Grows (w0 : World) (l : Value) (xs : List Nat) (w : World) : Prop := w.ownsRow w0.heap.size 22 1 l xs.length (xs.map Wd) ∧ Below w0.heap.size w0 w
theorem Grows.start (w0 : World) (w : World) (h : Below w0.heap.size w0 w) : Grows w0 (.slice none 0 0) [] w := ⟨World.ownsRow_nil _ _ _ _, h⟩
theorem below_alloc {w0 w : World} (h : Below w0.heap.size w0 w) (o : Obj) : Below w0.heap.size w0 (w.alloc o) :=
  ⟨h.os, h.tape, h.output, Nat.le_trans h.size (by simp), fun k hk => (Below.heap_alloc _ _ _ (Nat.lt_of_lt_of_le hk h.size)).trans (h.block k hk)⟩
theorem below_grown {w0 w w' : World} {row : Option Nat} (h : Below w0.heap.size w0 w) (hg : w.grownBy w' row) (hr : ∀ k, row = some k → w0.heap.size ≤ k) : Below w0.heap.size w0 w' :=
  ⟨hg.os.trans h.os, hg.tape.trans h.tape, hg.output.trans h.output, Nat.le_trans h.size hg.size, fun k hk => by
    rw [hg.block k (Nat.lt_of_lt_of_le hk h.size) ?_]
    · exact h.block k hk
    · intro e
      have := hr k e.symm
      omega⟩
theorem Grows.step {w0 wr w1 : World} {l v : Value} {xs : List Nat} {b : Nat} {o : Obj} {n : Nat} {vs : List Value} (h : Grows w0 l xs wr) (hown : w1.ownsRow w0.heap.size 22 1 v n vs) (hn : n = xs.length + 1) (hx : vs = xs.map Wd ++ [.int .u64 (b : Int)]) (hg : (wr.alloc o).grownBy w1 l.ownBlock) : Grows w0 v (xs ++ [b]) w1 := by
  subst hn hx
  refine ⟨by simpa [Wd] using hown, ?_⟩
  exact below_grown (below_alloc h.2 o) hg (fun k hk => (h.1.lt k hk).1)

/-- A list stands for a number: its digits, the top one no 0. -/
def Ls (w : World) (v : Value) (X : Nat) : Prop := ∃ k, Rd w v (ds X k) ∧ X < 4294967296 ^ k ∧ (k = 0 ∨ 4294967296 ^ (k - 1) ≤ X)
theorem Ls.below {w w' : World} {v : Value} {X : Nat} (h : Ls w v X) (f : Below w.heap.size w w') : Ls w' v X := by
  obtain ⟨k, h1, h2⟩ := h
  exact ⟨k, h1.below f, h2⟩

set_option maxRecDepth 100000 in
set_option maxHeartbeats 800000 in
/-- Trim. -/
theorem trim_any (v : Value) (X k : Nat) (w : World) (hR : Rd w v (ds X k)) (hX : X < 4294967296 ^ k) (hk : k < 1048576) :
    Calls Try.prog 50 #[v] w fun e w' => ∃ v', e = .returned v' ∧ Ls w v' X ∧ w' = w := by
  obtain ⟨a, cap, rfl, hc1, hc2⟩ := hR.shapeR
  have HR := hide hR
  rw [ds_length] at HR hc1 ⊢
  have HX := hide hX
  have HC := hide (And.intro hc1 hc2)
  clear hR hX hc1 hc2
  go_enter Try.func50, Try.ntmps50
  go_wp2
  go_loopg [3] k (fun g s wr => s = .int .i64 (g : Int) ∧ g ≤ k ∧ Hid (X < 4294967296 ^ g) ∧ wr = w)
  case atStart => exact ⟨rfl, Nat.le_refl _, HX, rfl⟩
  case round =>
    obtain ⟨rfl, hgk, hXg, rfl⟩ := hrel
    have hc := unhide HC
    have done : Hid (dig X (gk - 1) ≠ 0 ∨ gk = 0) → Hid (Ls wr (.slice a gk cap) X) := fun hd => by
      refine ⟨gk, ?_, unhide hXg, ?_⟩
      · rcases unhide HR with ⟨e, e2⟩ | ⟨b, off, cap', e, _, _, hb, hcell⟩
        · simp only [Value.slice.injEq] at e
          obtain ⟨rfl, rfl, rfl⟩ := e
          obtain rfl : gk = 0 := by omega
          exact .inl ⟨rfl, rfl⟩
        · simp only [Value.slice.injEq] at e
          obtain ⟨rfl, _, rfl⟩ := e
          refine .inr ⟨b, off, cap, by rw [ds_length], by rw [ds_length]; omega, hc.2, hb, fun i hi => ?_⟩
          rw [ds_length] at hi
          rw [hcell i (by rw [ds_length]; omega), ds_getD X k i (by omega), ds_getD X gk i hi]
      · rcases unhide hd with hd | hd
        · right
          have hg : gk - 1 + 1 = gk := by
            rcases Nat.eq_zero_or_pos gk with h | h
            · subst h; exact absurd (by unfold dig; have := unhide hXg; simp at this; subst this; rfl) hd
            · omega
          exact ge_of_top (by rw [hg]; exact unhide hXg) hd
        · exact .inl hd
    by_cases h0 : gk = 0
    · subst h0
      have D := done (.inr rfl)
      have i1 : (0 : Int) ≤ (cap : Int) := by omega
      clear done
      go_wp2
      go_ret
      exact ⟨_, rfl, unhide D, rfl⟩
    · obtain ⟨j, rfl⟩ : ∃ j, gk = j + 1 := ⟨gk - 1, by omega⟩
      obtain ⟨b, off, rfl, hb, hcell⟩ := (unhide HR).at j (by rw [ds_length]; omega)
      rw [ds_getD X k j (by omega)] at hcell
      have i1 : (0 : Int) < ((j + 1 : Nat) : Int) := by omega
      have i2 : (0 : Int) ≤ (j : Int) := by omega
      have i3 : (j : Int) < (k : Int) := by omega
      have i4 : ((j + 1 : Nat) : Int) - 1 = (j : Int) := by omega
      by_cases hd : dig X j = 0
      · have hlt := hide (lt_of_top (unhide hXg) hd)
        rw [hd] at hcell
        clear done hd
        go_wp2
        go_roundg j
        case measure => omega
        case rel => exact ⟨by go_num, by omega, hlt, rfl⟩
      · have D := done (.inl hd)
        have d1 : ((dig X j : Int) == 0) = false := by rw [beq_eq_false_iff_ne]; omega
        generalize dig X j = dd at *
        have i5 : ((j + 1 : Nat) : Int) ≤ (cap : Int) := by omega
        clear done hd
        go_wp2
        go_ret
        exact ⟨_, rfl, unhide D, rfl⟩
end Go.Proofs.Ytnikbaibchgmnaa
