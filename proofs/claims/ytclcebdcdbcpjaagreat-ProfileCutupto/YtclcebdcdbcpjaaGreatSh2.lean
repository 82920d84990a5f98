/-
  The examples are as they should be.
-/
import Derived.Test.YtclcebdcdbcpjaaGreatBk7
import Derived.Test.YtclcebdcdbcpjaaGreatD12
import Derived.Test.YtclcebdcdbcpjaaGreatH3
import Derived.Test.YtclcebdcdbcpjaaGreatE4
import Derived.Test.YtclcebdcdbcpjaaGreatD6
namespace Go.Proofs.YtclcebdcdbcpjaaGreat
open Go.RowKit
set_option linter.unusedVariables false
set_option linter.unusedSimpArgs false
def f3 : List (List Sp) := [[spZ, ⟨2, 12, 4, 3⟩]]
def f4 : List (List Sp) := [[spZ, ⟨2, 12, 4, -1⟩]]
def fh : List (List Sp) := [[⟨5, 0, 0, 0⟩], [⟨9, 0, 0, 0⟩], [⟨5, 0, 0, 0⟩]]
theorem sh_new : newP [2] [] = [[spZ, spZ]] := by rfl
theorem sh_n1 : noteP [[spZ, spZ]] (0, 1) [(2, 0), (3, 0)] 0 = [[spZ, ⟨1, 8, 4, 0⟩]] := by
  show setAt [[spZ, spZ]] (0, 1) (tog spZ ⟨1, kbt [(2, 0), (3, 0)] 0, kbt [(2, 0), (3, 0)] 1, 0⟩) = _
  have e0 : kbt [(2, 0), (3, 0)] 0 = 8 := by rfl
  have e1 : kbt [(2, 0), (3, 0)] 1 = 4 := by rfl
  rw [e0, e1, tog_zero (by unfold okS; simp)]
  rfl
theorem sh_or (a b c : Int) (ha : 0 ≤ a ∧ a < 65536) (hb : 0 ≤ b ∧ b < 65536) (h : ((a.toNat ||| b.toNat : Nat) : Int) = c) : orU a b = c := by
  unfold orU
  rw [u16_or _ _ ha.1 ha.2 hb.1 hb.2, h]
theorem sh_n2 : noteP [[spZ, ⟨1, 8, 4, 0⟩]] (0, 1) [(2, 0)] 3 = f3 := by
  show setAt [[spZ, ⟨1, 8, 4, 0⟩]] (0, 1) (tog ⟨1, 8, 4, 0⟩ ⟨1, kbt [(2, 0)] 0, kbt [(2, 0)] 1, 3⟩) = _
  have e0 : kbt [(2, 0)] 0 = 4 := by rfl
  have e1 : kbt [(2, 0)] 1 = 0 := by rfl
  rw [e0, e1]
  have e2 : tog ⟨1, 8, 4, 0⟩ ⟨1, 4, 0, 3⟩ = (⟨2, 12, 4, 3⟩ : Sp) := by
    unfold tog
    have a1 : orU 8 4 = 12 := sh_or 8 4 12 (by omega) (by omega) (by rfl)
    have a2 : orU 4 0 = 4 := sh_or 4 0 4 (by omega) (by omega) (by rfl)
    have a3 : cnt 1 1 = 2 := by rfl
    have a4 : cal 0 3 = 3 := by rfl
    simp only [a1, a2, a3, a4]
  rw [e2]
  rfl
theorem sh_n3 : noteP f3 (0, 2) [] 0 = f3 := by rfl
theorem okZ : okS spZ := by unfold okS spZ; simp
theorem ok_f3 : OkF f3 := by
  intro l hl s hs
  simp only [f3, List.mem_cons, List.not_mem_nil, or_false] at hl
  subst hl
  simp only [List.mem_cons, List.not_mem_nil, or_false] at hs
  rcases hs with rfl | rfl <;> (unfold okS; simp [spZ])
theorem ok_n0 : OkF [[spZ, spZ]] := by
  intro l hl s hs
  simp only [List.mem_cons, List.not_mem_nil, or_false] at hl
  subst hl
  simp only [List.mem_cons, List.not_mem_nil, or_false] at hs
  rcases hs with rfl | rfl <;> exact okZ
theorem ok_n1 : OkF [[spZ, ⟨1, 8, 4, 0⟩]] := by
  intro l hl s hs
  simp only [List.mem_cons, List.not_mem_nil, or_false] at hl
  subst hl
  simp only [List.mem_cons, List.not_mem_nil, or_false] at hs
  rcases hs with rfl | rfl <;> (unfold okS; simp [spZ])
theorem ok_f4 : OkF f4 := by
  intro l hl s hs
  simp only [f4, List.mem_cons, List.not_mem_nil, or_false] at hl
  subst hl
  simp only [List.mem_cons, List.not_mem_nil, or_false] at hs
  rcases hs with rfl | rfl <;> (unfold okS; simp [spZ])
theorem sh_enc : encP f4 = [80, 84, 70, 1, 1, 2, 0, 15, 2, 12, 4, 1] := by kernel_rfl
theorem sh_d1 : decP [80, 84, 70, 1, 1, 1, 1, 0] = .error 4 := by kernel_rfl
theorem sh_d2 : decP [80, 84, 70, 1, 1, 1, 2, 128, 8] = .error 1 := by kernel_rfl
theorem sh_ck : ckE f4 = 0 := by
  refine ckE_ok ?_ ?_
  · unfold LongF
    simp [f4]
  · unfold BadF
    simp [f4, tkB, spZ]
theorem hotP_fh : hotP fh 5 3 = [0, 1, 2] := by rfl
theorem sh_hot : hotS fh 5 = [1, 0, 2] := by
  unfold hotS
  have e : (hotP fh 5 fh.length) = [0, 1, 2] := hotP_fh
  rw [e]
  have tr : ∀ a b c : Int, leH fh a b = true → leH fh b c = true → leH fh a c = true := fun a b c h1 h2 => by
    unfold leH at *
    rw [ltH] at *
    simp at *
    omega
  have to : ∀ a b : Int, (leH fh a b || leH fh b a) = true := fun a b => by
    unfold leH
    rw [ltH, ltH]
    simp
    omega
  refine List.Perm.eq_of_pairwise (le := fun a b => leH fh a b = true) (fun a b _ _ h1 h2 => ?_) (List.pairwise_mergeSort tr to _) ?_ ((List.mergeSort_perm _ _).trans (List.Perm.swap 1 0 [2]))
  · unfold leH at h1 h2
    simp at h1 h2
    exact totH fh a b h2 h1
  · simp only [List.pairwise_cons, List.mem_cons, List.not_mem_nil, or_false, forall_eq_or_imp, forall_eq, false_implies, implies_true, List.Pairwise.nil, and_true]
    refine ⟨⟨by rfl, by rfl⟩, by rfl⟩
set_option maxRecDepth 100000 in
theorem two_any (w : World) : Calls Tryz.prog 20 #[] w fun e w' => ∃ v, e = .returned v ∧ PgL w' v [2] ∧ Below w.heap.size w w' := by
  go_enter Tryz.func20, Tryz.ntmps20
  go_wp2_with fail
  refine bodyPost_ret (v := .agg #[.slice none 0 0, .slice (some ⟨w.heap.size + 1 + 1, 0, none⟩) 1 1]) ?_ rfl ?_
  · rw [results_cell_one rfl]
    go_simp
  · refine ⟨_, rfl, ⟨.slice none 0 0, .slice (some ⟨w.heap.size + 1 + 1, 0, none⟩) 1 1, [⟨⟨#[109, 97, 105, 110]⟩, 0, 0, .slice (some ⟨w.heap.size + 1, 0, none⟩) 2 2, .slice none 0 0⟩], rfl, rfl, ?_, ⟨_, _, _, rfl⟩, ?_⟩, Below.alloc3 w _ _ _⟩
    · refine ⟨rfl, some ⟨w.heap.size + 1 + 1, 0, none⟩, 1, rfl, Nat.le_refl _, by decide, fun _ => ⟨w.heap.size + 1 + 1, 0, rfl, by simp only [World.size_alloc]; omega, fun j hj => ?_⟩⟩
      have := (blk_cells (heap_alloc_new ((w.alloc (.cells #[.slice none 0 0, .slice (some ⟨w.heap.size + 1 + 1, 0, none⟩) 1 1] 41)).alloc (.cells #[.int .i64 0, .int .i64 0, .int .i64 0, .int .i64 0] 115)) (.cells #[.string ⟨#[109, 97, 105, 110]⟩, .int .i64 0, .int .i64 0, .slice (some ⟨w.heap.size + 1, 0, none⟩) 2 2, .slice none 0 0] 83))).1 j
      simp only [World.size_alloc] at this
      rw [Nat.zero_add]
      exact this.trans (by simp [flt, enF])
    · intro i m x h1 h2
      match i with
      | 0 => simp at h1 h2; subst h1 h2; exact ⟨_, _, _, _, _, rfl, rfl⟩
      | i + 1 => simp at h1

set_option linter.unusedVariables false
set_option linter.unusedSimpArgs false
theorem new_rx {T : Type} {en : T → List Value} {sz : Nat} (hz : ∀ x, (en x).length = sz) (w : World) (l : List T) (arr : Array Value) (t : TypeId) (ha : arr.toList = flt en l) (hm : l.length ≤ maxLen) : Rx (w.alloc (.cells arr t)) sz (.slice (some ⟨w.heap.size, 0, none⟩) l.length l.length) l.length (flt en l) := by
  refine ⟨flt_length hz l, some ⟨w.heap.size, 0, none⟩, l.length, rfl, Nat.le_refl _, hm, fun _ => ⟨w.heap.size, 0, rfl, by rw [World.size_alloc]; omega, fun j hj => ?_⟩⟩
  have := (blk_cells (heap_alloc_new w (.cells arr t))).1 j
  rw [Nat.zero_add, this, ← ha]
  simp
theorem new_rd (w : World) (l : List Int) (arr : Array Value) (ha : arr.toList = l.map By) (hm : l.length ≤ maxLen) : Rd (w.alloc (.cells arr 5)) (.slice (some ⟨w.heap.size, 0, none⟩) l.length l.length) l := by
  refine .inr ⟨w.heap.size, 0, l.length, rfl, Nat.le_refl _, hm, by rw [World.size_alloc]; omega, fun j hj => ?_⟩
  have := (blk_cells (heap_alloc_new w (.cells arr 5))).1 j
  rw [Nat.zero_add, this]
  have e : arr[j]? = (l.map By)[j]? := by rw [← ha]; simp
  rw [e, List.getElem?_map, List.getElem?_eq_getElem hj, List.getD_eq_getElem?_getD, List.getElem?_eq_getElem hj]
  rfl
theorem hot_mem (V : World) (b : Nat) (hb : V.heap.size = b) : PfV ((((V.alloc (.cells #[.int .i64 5, .int .u16 0, .int .u16 0, .int .i64 0] 62)).alloc (.cells #[.int .i64 9, .int .u16 0, .int .u16 0, .int .i64 0] 62)).alloc (.cells #[.int .i64 5, .int .u16 0, .int .u16 0, .int .i64 0] 62)).alloc (.cells #[.slice (some ⟨b, 0, none⟩) 1 1, .slice (some ⟨b + 1, 0, none⟩) 1 1, .slice (some ⟨b + 1 + 1, 0, none⟩) 1 1] 64)) (.slice (some ⟨b + 1 + 1 + 1, 0, none⟩) 3 3) fh := by
  subst hb
  have r1 := new_rx zS V [⟨5, 0, 0, 0⟩] #[.int .i64 5, .int .u16 0, .int .u16 0, .int .i64 0] 62 rfl (by decide)
  have r2 := new_rx zS (V.alloc (.cells #[.int .i64 5, .int .u16 0, .int .u16 0, .int .i64 0] 62)) [⟨9, 0, 0, 0⟩] #[.int .i64 9, .int .u16 0, .int .u16 0, .int .i64 0] 62 rfl (by decide)
  have r3 := new_rx zS ((V.alloc (.cells #[.int .i64 5, .int .u16 0, .int .u16 0, .int .i64 0] 62)).alloc (.cells #[.int .i64 9, .int .u16 0, .int .u16 0, .int .i64 0] 62)) [⟨5, 0, 0, 0⟩] #[.int .i64 5, .int .u16 0, .int .u16 0, .int .i64 0] 62 rfl (by decide)
  have r4 := new_rx zV (((V.alloc (.cells #[.int .i64 5, .int .u16 0, .int .u16 0, .int .i64 0] 62)).alloc (.cells #[.int .i64 9, .int .u16 0, .int .u16 0, .int .i64 0] 62)).alloc (.cells #[.int .i64 5, .int .u16 0, .int .u16 0, .int .i64 0] 62)) [.slice (some ⟨V.heap.size, 0, none⟩) 1 1, .slice (some ⟨V.heap.size + 1, 0, none⟩) 1 1, .slice (some ⟨V.heap.size + 1 + 1, 0, none⟩) 1 1] #[.slice (some ⟨V.heap.size, 0, none⟩) 1 1, .slice (some ⟨V.heap.size + 1, 0, none⟩) 1 1, .slice (some ⟨V.heap.size + 1 + 1, 0, none⟩) 1 1] 64 rfl (by simp [maxLen])
  simp only [World.size_alloc] at r2 r3 r4
  refine ⟨[.slice (some ⟨V.heap.size, 0, none⟩) 1 1, .slice (some ⟨V.heap.size + 1, 0, none⟩) 1 1, .slice (some ⟨V.heap.size + 1 + 1, 0, none⟩) 1 1], rfl, r4, fun i l u hl hu => ?_⟩
  match i, hl, hu with
  | 0, hl, hu =>
    simp [fh] at hl hu
    subst hl hu
    exact ((r1.below ((Below.refl _ _).alloc (Nat.le_refl _) _) (Nat.le_refl _)).below ((Below.refl _ _).alloc (Nat.le_refl _) _) (Nat.le_refl _)).below ((Below.refl _ _).alloc (Nat.le_refl _) _) (Nat.le_refl _)
  | 1, hl, hu =>
    simp [fh] at hl hu
    subst hl hu
    exact (r2.below ((Below.refl _ _).alloc (Nat.le_refl _) _) (Nat.le_refl _)).below ((Below.refl _ _).alloc (Nat.le_refl _) _) (Nat.le_refl _)
  | 2, hl, hu =>
    simp [fh] at hl hu
    subst hl hu
    exact r3.below ((Below.refl _ _).alloc (Nat.le_refl _) _) (Nat.le_refl _)
  | i + 3, hl, hu => simp [fh] at hl
theorem sh_dec1 (w7 : World) : (Calls Tryz.prog 6 #[.slice (some ⟨w7.heap.size, 0, none⟩) 8 8] (w7.alloc (.cells #[.int .u8 80, .int .u8 84, .int .u8 70, .int .u8 1, .int .u8 1, .int .u8 1, .int .u8 1, .int .u8 0] 5)) fun e w' => Below (w7.alloc (.cells #[.int .u8 80, .int .u8 84, .int .u8 70, .int .u8 1, .int .u8 1, .int .u8 1, .int .u8 1, .int .u8 0] 5)).heap.size (w7.alloc (.cells #[.int .u8 80, .int .u8 84, .int .u8 70, .int .u8 1, .int .u8 1, .int .u8 1, .int .u8 1, .int .u8 0] 5)) w' ∧ e = .returned (.tuple #[.agg #[.slice none 0 0], .int .i64 4])) := by
  have := decode_any (new_rd w7 [80, 84, 70, 1, 1, 1, 1, 0] #[.int .u8 80, .int .u8 84, .int .u8 70, .int .u8 1, .int .u8 1, .int .u8 1, .int .u8 1, .int .u8 0] rfl (by simp [maxLen])) (by unfold BOk; decide) (by simp)
  rw [sh_d1] at this
  exact this.mono (fun e w' h => ⟨h.1, h.2.2⟩)
theorem sh_dec2 (V : World) (b : Nat) (hb : V.heap.size = b) : (Calls Tryz.prog 6 #[.slice (some ⟨b, 0, none⟩) 9 9] (V.alloc (.cells #[.int .u8 80, .int .u8 84, .int .u8 70, .int .u8 1, .int .u8 1, .int .u8 1, .int .u8 2, .int .u8 128, .int .u8 8] 5)) fun e w' => Below (V.alloc (.cells #[.int .u8 80, .int .u8 84, .int .u8 70, .int .u8 1, .int .u8 1, .int .u8 1, .int .u8 2, .int .u8 128, .int .u8 8] 5)).heap.size (V.alloc (.cells #[.int .u8 80, .int .u8 84, .int .u8 70, .int .u8 1, .int .u8 1, .int .u8 1, .int .u8 2, .int .u8 128, .int .u8 8] 5)) w' ∧ e = .returned (.tuple #[.agg #[.slice none 0 0], .int .i64 1])) := by
  subst hb
  have := decode_any (new_rd V [80, 84, 70, 1, 1, 1, 2, 128, 8] #[.int .u8 80, .int .u8 84, .int .u8 70, .int .u8 1, .int .u8 1, .int .u8 1, .int .u8 2, .int .u8 128, .int .u8 8] rfl (by simp [maxLen])) (by unfold BOk; decide) (by simp)
  rw [sh_d2] at this
  exact this.mono (fun e w' h => ⟨h.1, h.2.2⟩)
theorem fr_below {w W W' : World} {Z : Nat → Prop} (h : Below w.heap.size w W) (f : Fr Z W W') (hz : ∀ k, Z k → w.heap.size ≤ k) : Below w.heap.size w W' := h.trans (f.below h.size (fun k hk e => by have := hz k e; omega))
end Go.Proofs.YtclcebdcdbcpjaaGreat
