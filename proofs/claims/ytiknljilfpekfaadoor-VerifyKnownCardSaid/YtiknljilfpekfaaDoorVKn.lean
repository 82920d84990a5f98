/-
  The programs that are named, and what is found of them.
-/
import Derived.Test.YtiknljilfpekfaaDoorVOkf
import Derived.Test.YtiknljilfpekfaaDoorVDec
namespace Go.Proofs.YtiknljilfpekfaaDoor
open Go.RowKit
set_option linter.unusedVariables false
set_option linter.unusedSimpArgs false
def mainB : ByteArray := ⟨#[109, 97, 105, 110]⟩
def fnc (code : List (Int × Int)) (hs : List Hd) : Fc := ⟨mainB, 0, 0, code, hs⟩
def twr (n : Nat) : List (Int × Int) := (List.range (2 * n - 1)).map (fun i => if i < n then ((1, 0) : Int × Int) else (7, 0)) ++ [(44, 0)]
def nS (f : Fc) (n : Nat) : List Spot × List Spot := bfsS f n [(0, 0)] [(0, 0)]
theorem all_of {f : Fc} {n : Nat} (hf : OkF f) (h : (nS f n).2 = []) : ∀ s, Mt f s ↔ s ∈ (nS f n).1 := fun s => by
  have q := bfs_inv hf n (BfI.first f)
  unfold nS at h ⊢
  rw [h] at q
  exact q.all hf
theorem vp_one {f : Fc} (hc : ckF ⟨[], [f]⟩ = none) {hv : Option (List Int)} {pl er : Int} (h : FnR f hv pl er) {L : Option (List (List Int))} {k a e : Int} (hV : VpR ⟨[], [f]⟩ L k a e) : e = er ∧ k = 0 ∧ a = pl ∧ L = hv.map (fun l => [l]) := by
  rcases hV with ⟨y, q, _⟩ | ⟨_, i, g, hg, hk, hL, _, hR, _⟩ | ⟨_, hk, ha, he, Ls, hL, hl, hm⟩
  · rw [hc] at q; cases q
  · have hi : i = 0 := by have := (List.getElem?_eq_some_iff.1 hg).1; simp at this; exact this
    subst hi
    simp at hg
    subst hg
    obtain ⟨e1, e2, e3⟩ := hR.uniq h
    subst e1
    exact ⟨e3, hk, e2, hL⟩
  · have hl2 : Ls.length = 1 := hl
    match Ls, hl2 with
    | [l], _ =>
      obtain ⟨e1, e2, e3⟩ := (hm 0 f l rfl rfl).uniq h
      subst e1
      exact ⟨by rw [he]; exact e3, hk, by rw [ha]; exact e2, hL⟩
def k_A : Fc := fnc ([(2, 0), (41, 4), (1, 0), (44, 0), (1, 0), (44, 0)]) []
theorem ck_A : ckF ⟨[], [k_A]⟩ = none := by decide +kernel
theorem ok_A : OkF k_A := OkF.of ck_A (i := 0) rfl
theorem al_A : ∀ s, Mt k_A s ↔ s ∈ (nS k_A 6).1 := all_of ok_A (by decide +kernel)
def h_A : List Int := [0, 1, 0, 1, 0, 1]
theorem fn_A : FnR k_A (some h_A) 0 0 := fn_ok0 ok_A al_A (by decide +kernel) (by decide +kernel) (by decide +kernel) (by decide +kernel)
theorem vp_A {L : Option (List (List Int))} {k a e : Int} (hV : VpR ⟨[], [k_A]⟩ L k a e) : e = 0 ∧ k = 0 ∧ a = 0 ∧ L = (some [h_A]) := vp_one ck_A fn_A hV
def k_B : Fc := fnc ([(2, 0), (41, 3), (1, 0), (1, 0), (44, 0)]) []
theorem ck_B : ckF ⟨[], [k_B]⟩ = none := by decide +kernel
theorem ok_B : OkF k_B := OkF.of ck_B (i := 0) rfl
theorem al_B : ∀ s, Mt k_B s ↔ s ∈ (nS k_B 6).1 := all_of ok_B (by decide +kernel)
theorem fn_B : FnR k_B none 3 9 := fn_bad9 (p := 3) al_B (by decide +kernel) (by decide +kernel)
theorem vp_B {L : Option (List (List Int))} {k a e : Int} (hV : VpR ⟨[], [k_B]⟩ L k a e) : e = 9 ∧ k = 0 ∧ a = 3 ∧ L = none := vp_one ck_B fn_B hV
def k_C : Fc := fnc ([(1, 0), (40, 0)]) []
theorem ck_C : ckF ⟨[], [k_C]⟩ = none := by decide +kernel
theorem ok_C : OkF k_C := OkF.of ck_C (i := 0) rfl
theorem al_C : ∀ s, Mt k_C s ↔ s ∈ (nS k_C 130).1 := all_of ok_C (by decide +kernel)
theorem fn_C : FnR k_C none 0 9 := fn_bad9 (p := 0) al_C (by decide +kernel) (by decide +kernel)
theorem vp_C {L : Option (List (List Int))} {k a e : Int} (hV : VpR ⟨[], [k_C]⟩ L k a e) : e = 9 ∧ k = 0 ∧ a = 0 ∧ L = none := vp_one ck_C fn_C hV
def k_D : Fc := fnc ([(1, 0), (7, 0)]) []
theorem ck_D : ckF ⟨[], [k_D]⟩ = none := by decide +kernel
theorem ok_D : OkF k_D := OkF.of ck_D (i := 0) rfl
theorem al_D : ∀ s, Mt k_D s ↔ s ∈ (nS k_D 4).1 := all_of ok_D (by decide +kernel)
theorem fn_D : FnR k_D none 1 10 := fn_un10 (p := 1) al_D (by decide +kernel) (by decide +kernel) (by decide +kernel)
theorem vp_D {L : Option (List (List Int))} {k a e : Int} (hV : VpR ⟨[], [k_D]⟩ L k a e) : e = 10 ∧ k = 0 ∧ a = 1 ∧ L = none := vp_one ck_D fn_D hV
def k_E : Fc := fnc (twr 64) []
theorem ck_E : ckF ⟨[], [k_E]⟩ = none := by decide +kernel
theorem ok_E : OkF k_E := OkF.of ck_E (i := 0) rfl
theorem al_E : ∀ s, Mt k_E s ↔ s ∈ (nS k_E 128).1 := all_of ok_E (by decide +kernel)
def h_E : List Int := (List.range 128).map (fun (i : Nat) => if i ≤ 64 then (i : Int) else 128 - (i : Int))
theorem fn_E : FnR k_E (some h_E) 0 0 := fn_ok0 ok_E al_E (by decide +kernel) (by decide +kernel) (by decide +kernel) (by decide +kernel)
theorem vp_E {L : Option (List (List Int))} {k a e : Int} (hV : VpR ⟨[], [k_E]⟩ L k a e) : e = 0 ∧ k = 0 ∧ a = 0 ∧ L = (some [h_E]) := vp_one ck_E fn_E hV
def k_F : Fc := fnc (twr 65) []
theorem ck_F : ckF ⟨[], [k_F]⟩ = none := by decide +kernel
theorem ok_F : OkF k_F := OkF.of ck_F (i := 0) rfl
theorem al_F : ∀ s, Mt k_F s ↔ s ∈ (nS k_F 66).1 := all_of ok_F (by decide +kernel)
theorem fn_F : FnR k_F none 64 9 := fn_bad9 (p := 64) al_F (by decide +kernel) (by decide +kernel)
theorem vp_F {L : Option (List (List Int))} {k a e : Int} (hV : VpR ⟨[], [k_F]⟩ L k a e) : e = 9 ∧ k = 0 ∧ a = 64 ∧ L = none := vp_one ck_F fn_F hV
def k_R : Fc := fnc ([(40, 0)]) []
theorem ck_R : ckF ⟨[], [k_R]⟩ = none := by decide +kernel
theorem ok_R : OkF k_R := OkF.of ck_R (i := 0) rfl
theorem al_R : ∀ s, Mt k_R s ↔ s ∈ (nS k_R 3).1 := all_of ok_R (by decide +kernel)
def h_R : List Int := [0]
theorem fn_R : FnR k_R (some h_R) 0 0 := fn_ok0 ok_R al_R (by decide +kernel) (by decide +kernel) (by decide +kernel) (by decide +kernel)
theorem vp_R {L : Option (List (List Int))} {k a e : Int} (hV : VpR ⟨[], [k_R]⟩ L k a e) : e = 0 ∧ k = 0 ∧ a = 0 ∧ L = (some [h_R]) := vp_one ck_R fn_R hV
def k_H : Fc := fnc ([(1, 0), (44, 0), (44, 0)]) [⟨1, 2, 2, 1⟩]
theorem ck_H : ckF ⟨[], [k_H]⟩ = none := by decide +kernel
theorem ok_H : OkF k_H := OkF.of ck_H (i := 0) rfl
theorem al_H : ∀ s, Mt k_H s ↔ s ∈ (nS k_H 5).1 := all_of ok_H (by decide +kernel)
theorem fn_H : FnR k_H none 1 9 := fn_bad9 (p := 1) al_H (by decide +kernel) (by decide +kernel)
theorem vp_H {L : Option (List (List Int))} {k a e : Int} (hV : VpR ⟨[], [k_H]⟩ L k a e) : e = 9 ∧ k = 0 ∧ a = 1 ∧ L = none := vp_one ck_H fn_H hV
def k_W : Fc := fnc ([(40, 2), (7, 0), (2, 0), (41, 1), (7, 0), (1, 0), (44, 0)]) []
theorem ck_W : ckF ⟨[], [k_W]⟩ = none := by decide +kernel
theorem ok_W : OkF k_W := OkF.of ck_W (i := 0) rfl
theorem al_W : ∀ s, Mt k_W s ↔ s ∈ (nS k_W 9).1 := all_of ok_W (by decide +kernel)
theorem fn_W : FnR k_W none 1 9 := fn_bad9 (p := 1) al_W (by decide +kernel) (by decide +kernel)
theorem vp_W {L : Option (List (List Int))} {k a e : Int} (hV : VpR ⟨[], [k_W]⟩ L k a e) : e = 9 ∧ k = 0 ∧ a = 1 ∧ L = none := vp_one ck_W fn_W hV
def k_G : Fc := fnc ([(40, 3), (7, 0), (7, 0), (7, 0), (1, 0), (44, 0)]) [⟨3, 4, 1, 0⟩]
theorem ck_G : ckF ⟨[], [k_G]⟩ = none := by decide +kernel
theorem ok_G : OkF k_G := OkF.of ck_G (i := 0) rfl
theorem al_G : ∀ s, Mt k_G s ↔ s ∈ (nS k_G 9).1 := all_of ok_G (by decide +kernel)
theorem fn_G : FnR k_G none 2 9 := fn_bad9 (p := 2) al_G (by decide +kernel) (by decide +kernel)
theorem vp_G {L : Option (List (List Int))} {k a e : Int} (hV : VpR ⟨[], [k_G]⟩ L k a e) : e = 9 ∧ k = 0 ∧ a = 2 ∧ L = none := vp_one ck_G fn_G hV
theorem mxE : mxl h_E = 64 := by decide +kernel
theorem mxR : mxl h_R = 0 := by decide +kernel
end Go.Proofs.YtiknljilfpekfaaDoor
