/-
  Return.
-/
import Derived.Test.YtfcgpafjhifogaaCat
namespace Go.Proofs.Ytfcgpafjhifogaa
open Go.RowKit
set_option linter.unusedVariables false
set_option linter.unusedSimpArgs false
/-- The frames behind a return. -/
def rt (fs : List Fm) (x : Int × Int) : Option (List Fm) :=
  if fs.length < 2 then none else match fs[fs.length - 2]? with
    | none => none
    | some f => some (fs.take (fs.length - 2) ++ [⟨f.fn, IntKind.i64.wrap (f.pc + 1), f.sl ++ [x]⟩])
set_option maxRecDepth 100000 in
set_option maxHeartbeats 3200000 in
theorem return_any {w : World} {pv lv : Value} {fs : List Fm} (x : Int × Int) (hp : ∃ a b, pv = .agg #[a, b]) (hl : FsV w lv fs) (hL : fs.length ≤ 1048576) (hS : ∀ f ∈ fs, f.sl.length ≤ 1048576) :
    Calls Try.prog 25 #[pv, lv, .agg #[.int .i64 x.1, .int .i64 x.2]] w (ClP w (rt fs x)) := by
  obtain ⟨pa, pb, rfl⟩ := hp
  obtain ⟨a, cap, rfl, hlc, hcm⟩ := hl.shape
  unfold maxLen at hcm
  by_cases q : fs.length < 2
  · have hr : rt fs x = none := by unfold rt; rw [if_pos q]
    rw [hr]
    obtain ⟨N, hN⟩ : ∃ N, Hid (fs.length = N) := ⟨_, hide rfl⟩
    rw [unhide hN] at q hL hlc ⊢
    have q' : (N : Int) < 2 := by omega
    clear hl hr
    go_enter Try.func25, Try.ntmps25
    go_wp2_with fail
    go_ret2
    exact ⟨_, [], rfl, OF.nil _ _, Below.alloc2 w _ _⟩
  · obtain ⟨n, hn⟩ : ∃ n, fs.length = n + 2 := ⟨fs.length - 2, by omega⟩
    obtain ⟨f, hf⟩ : ∃ f, fs[n]? = some f := ⟨_, List.getElem?_eq_getElem (by omega)⟩
    have hr : rt fs x = some (fs.take n ++ [⟨f.fn, IntKind.i64.wrap (f.pc + 1), f.sl ++ [x]⟩]) := by
      unfold rt
      rw [if_neg q, show fs.length - 2 = n by omega, hf]
    rw [hr]
    have HL := hide hl
    have HF := hide hf
    have HS := hide hS
    have HN := hide hn
    obtain ⟨b, off, sa, sc, ea, hb, k0, k1, k2, hx, hsl, hsm⟩ := (by rw [hn] at hl; exact hl : FsV w (.slice a (n + 2) cap) fs).three hf
    cases ea
    rw [hn] at hL hlc ⊢
    rw [hn] at HL
    have HR := hide (fun o1 o2 o3 => resumed_any (g := f) (n := n) (k := f.sl.length) (IntKind.i64.wrap (f.pc + 1)) x (((unhide HL).below (Below.alloc3 w o1 o2 o3) (Nat.le_refl _)).upto (k := n + 1) (by omega)) (by rw [List.length_take]; omega) (by rw [List.getElem?_take, if_pos (by omega)]; exact hf) (Nat.le_refl _) (by rw [List.length_take]; omega) (fun z hz => hS z (List.mem_of_mem_take hz)))
    rw [List.take_take, Nat.min_eq_left (by omega), List.take_of_length_le (Nat.le_refl _)] at HR
    have hfs := hS f (List.mem_of_getElem? hf)
    obtain ⟨PC, hPC⟩ : ∃ PC, IntKind.i64.wrap (f.pc + 1) = PC := ⟨_, rfl⟩
    rw [hPC] at HR ⊢
    obtain ⟨N2, hN2⟩ : ∃ N2, Hid (f.sl.length = N2) := ⟨_, hide rfl⟩
    have q' : ¬ ((n : Int) + 2 < 2) := by omega
    have hw1 : IntKind.i64.wrap ((n : Int) + 2 - 1) = (n : Int) + 1 := by rw [show (n : Int) + 2 - 1 = (n : Int) + 1 by omega]; go_arith
    have hw2 : IntKind.i64.wrap ((n : Int) + 1 - 1) = (n : Int) := by rw [show (n : Int) + 1 - 1 = (n : Int) by omega]; go_arith
    have m0 : (0 : Int) ≤ (n : Int) := by omega
    have m1 : (n : Int) < (n : Int) + 1 := by omega
    have m2 : (0 : Int) ≤ (n : Int) + 1 := by omega
    have m3 : (n : Int) + 1 ≤ (cap : Int) := by omega
    unfold maxLen at hsm
    clear hl hf hS hn hr hx q HL HF HS
    go_enter Try.func25, Try.ntmps25
    go_wp2_with fail
    refine (unhide HR _ _ _).mono ?_
    rintro e w1 ⟨v', xs, rfl, ho, hb1⟩
    have HO : Hid (OF w.heap.size w1 v' (fs.take n ++ [⟨f.fn, PC, f.sl ++ [x]⟩]) xs ∧ Below w.heap.size w w1) := ⟨ho.low (by simp only [World.size_alloc]; omega), (Below.alloc3 w _ _ _).trans (hb1.mono (by simp only [World.size_alloc]; omega))⟩
    clear ho hb1 HR
    go_wp2_with fail
    go_ret2
    exact ⟨_, _, rfl, unhide HO⟩
end Go.Proofs.Ytfcgpafjhifogaa
