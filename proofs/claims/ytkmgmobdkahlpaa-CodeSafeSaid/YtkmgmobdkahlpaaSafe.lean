/-
  Safepoints.
-/
import Derived.Test.YtkmgmobdkahlpaaIRow
import Derived.Deep.RegionHeld3
namespace Go.Proofs.Ytkmgmobdkahlpaa
open Go.RowKit
set_option linter.unusedVariables false

/-- Is the instruction at a place a safepoint? -/
def sfB (l : List (Int × Int)) (pc : Int) : Bool :=
  if 0 ≤ pc ∧ pc < l.length then (match l[pc.toNat]? with
    | some p => decide (p.1 = 43) || (jmB p.1 && decide (p.2 ≤ pc))
    | none => false) else false

set_option maxRecDepth 100000 in
set_option maxHeartbeats 2000000 in
theorem dSafe_any {w : World} {lv : Value} {l : List (Int × Int)} (h : RtV w lv l) (pc : Int) :
    Calls Try.prog 24 #[lv, .int .i64 pc] w fun e w' => e = .returned (.bool (sfB l pc)) ∧ Below w.heap.size w w' := by
  have HJ := hide dJumps_any
  obtain ⟨a, cap, rfl, hlc, hcm, hcell⟩ := h
  have HC := hide hcell
  obtain ⟨L, hL⟩ : ∃ L, Hid (l.length = L) := ⟨_, rfl⟩
  rw [unhide hL] at hlc ⊢
  clear hcell
  by_cases hin : 0 ≤ pc ∧ pc < L
  · obtain ⟨i, rfl⟩ : ∃ i : Nat, pc = i := ⟨pc.toNat, by omega⟩
    have hil : i < l.length := by rw [unhide hL]; omega
    obtain ⟨p, hp⟩ : ∃ p, l[i]? = some p := ⟨_, List.getElem?_eq_getElem hil⟩
    obtain ⟨b, off, rfl, hb, c0, c1⟩ := unhide HC i p hp
    have hsf : Hid (sfB l i = (decide (p.1 = 43) || (jmB p.1 && decide (p.2 ≤ (i : Int))))) := by
      unfold Hid sfB
      rw [if_pos (by rw [unhide hL]; exact hin), Int.toNat_natCast, hp]
    rw [unhide hsf]
    obtain ⟨x, y⟩ := p
    simp only at c0 c1 ⊢
    have i0 : (0 : Int) ≤ (i : Int) := by omega
    have i1 : (i : Int) < (L : Int) := by omega
    have hJ2 := hide (fun w => unhide HJ w x)
    clear hp hsf hin hil HC hL HJ
    generalize jmB x = jb at *
    by_cases hx : x = 43
    · subst hx
      go_enter Try.func24, Try.ntmps24
      go_wp2_with fail
      go_ret
      exact ⟨rfl, Below.refl _ _⟩
    · have hx' : (x == 43) = false := by simpa using hx
      have hd : decide (x = 43) = false := by simpa using hx
      rw [hd]
      clear hd hx
      by_cases hy : y ≤ (i : Int) <;> cases jb
      all_goals
        go_enter Try.func24, Try.ntmps24
        go_wp2_with fail
        refine (unhide hJ2 _).mono ?_
        rintro e w1 ⟨rfl, rfl⟩
        go_wp2_with fail
        go_ret
        exact ⟨by simp_all, Below.refl _ _⟩
  · have e : sfB l pc = false := by unfold sfB; rw [if_neg (by rw [unhide hL]; exact hin)]
    rw [e]
    clear e
    have hor : pc < 0 ∨ (0 ≤ pc ∧ (L : Int) ≤ pc) := by omega
    clear hin
    rcases hor with h0 | ⟨h0, h1⟩
    all_goals
      go_enter Try.func24, Try.ntmps24
      go_wp2_with fail
      go_ret
      exact ⟨rfl, Below.refl _ _⟩

set_option maxRecDepth 100000 in
set_option maxHeartbeats 2000000 in
theorem safe_any {w : World} {lv : Value} {l : List (Int × Int)} (h : RtV w lv l) (pc : Int) :
    Calls Try.prog 26 #[lv, .int .i64 pc] w fun e w' => e = .returned (.bool (sfB l pc)) ∧ Below w.heap.size w w' := by
  have HJ := hide jumps_any
  obtain ⟨a, cap, rfl, hlc, hcm, hcell⟩ := h
  have HC := hide hcell
  obtain ⟨L, hL⟩ : ∃ L, Hid (l.length = L) := ⟨_, rfl⟩
  rw [unhide hL] at hlc ⊢
  clear hcell
  by_cases hin : 0 ≤ pc ∧ pc < L
  · obtain ⟨i, rfl⟩ : ∃ i : Nat, pc = i := ⟨pc.toNat, by omega⟩
    have hil : i < l.length := by rw [unhide hL]; omega
    obtain ⟨p, hp⟩ : ∃ p, l[i]? = some p := ⟨_, List.getElem?_eq_getElem hil⟩
    obtain ⟨b, off, rfl, hb, c0, c1⟩ := unhide HC i p hp
    have hsf : Hid (sfB l i = (decide (p.1 = 43) || (jmB p.1 && decide (p.2 ≤ (i : Int))))) := by
      unfold Hid sfB
      rw [if_pos (by rw [unhide hL]; exact hin), Int.toNat_natCast, hp]
    rw [unhide hsf]
    obtain ⟨x, y⟩ := p
    simp only at c0 c1 ⊢
    have i0 : (0 : Int) ≤ (i : Int) := by omega
    have i1 : (i : Int) < (L : Int) := by omega
    have hJ2 := hide (fun w => unhide HJ w x)
    clear hp hsf hin hil HC hL HJ
    generalize jmB x = jb at *
    by_cases hx : x = 43
    · subst hx
      go_enter Try.func26, Try.ntmps26
      go_wp2_with fail
      go_ret
      exact ⟨rfl, (Below.refl _ _).alloc (Nat.le_refl _) _⟩
    · have hx' : (x == 43) = false := by simpa using hx
      have hd : decide (x = 43) = false := by simpa using hx
      rw [hd]
      clear hd hx
      by_cases hy : y ≤ (i : Int) <;> cases jb
      all_goals
        go_enter Try.func26, Try.ntmps26
        go_wp2_with fail
        refine (unhide hJ2 _).mono ?_
        rintro e w1 ⟨rfl, hb1⟩
        have B1 := hide hb1
        obtain ⟨d0, d1⟩ := par_cells hb1
        clear hb1
        go_wp2_with fail
        go_ret
        exact ⟨by simp_all, Bl.par (unhide B1)⟩
  · have e : sfB l pc = false := by unfold sfB; rw [if_neg (by rw [unhide hL]; exact hin)]
    rw [e]
    clear e
    have hor : pc < 0 ∨ (0 ≤ pc ∧ (L : Int) ≤ pc) := by omega
    clear hin
    rcases hor with h0 | ⟨h0, h1⟩
    all_goals
      go_enter Try.func26, Try.ntmps26
      go_wp2_with fail
      go_ret
      exact ⟨rfl, Below.refl _ _⟩


set_option maxRecDepth 100000 in
set_option maxHeartbeats 2000000 in
theorem safeLaw {w : World} {lv : Value} {l : List (Int × Int)} (h : RtV w lv l) (hN : l.length ≤ 8796093021952) (pc : Int) :
    Calls Try.prog 6 #[lv, .int .i64 pc] w fun e w' => e = .returned (.bool true) ∧ Below w.heap.size w w' := by
  have HR := hide h
  have H1 := hide (dSafe_any h pc)
  have H2 := hide (fun w' (b : Below w.heap.size w w') => lentI_any (h.below b) hN)
  have HS := hide (fun (w' : World) (v : Value) (q : RtV w' v l) => safe_any q pc)
  have HK := hide (fun (w' : World) (v : Value) (b : Below w.heap.size w w') (hv : Ro w' 2 v (l ++ imarks 64).length (flat (l ++ imarks 64))) => keptI_any hv (h.below b) hN)
  obtain ⟨a, cap, rfl, hlc, hcm, hcell⟩ := h
  obtain ⟨L, hL⟩ : ∃ L, Hid (l.length = L) := ⟨_, rfl⟩
  rw [unhide hL] at H1 H2 HK hlc ⊢
  clear hcell
  generalize sfB l pc = sb at *
  go_enter Try.func6, Try.ntmps6
  go_wp2_with fail
  refine (unhide H1).mono ?_
  rintro e w1 ⟨rfl, hb1⟩
  have K2 := hide (unhide H2 w1 hb1)
  have B1 := hide hb1
  clear hb1
  go_wp2_with fail
  refine (unhide K2).mono ?_
  rintro e w2 ⟨v2, rfl, hG⟩
  have HG := hide hG
  obtain ⟨g, off, vcap, rfl, hv1, hv2, hgl, _⟩ := hG.1.full (by rw [ilm_length]; omega)
  have hlen : (l ++ imarks 64).length = L + 64 := by rw [ilm_length, unhide hL]
  have HG' := unhide HG
  rw [hlen] at HG' hv1 ⊢
  clear hG HG hlen
  have HGG := hide HG'
  clear HG'
  have hL64 : L ≤ L + 64 := by omega
  have hLc : (L : Int) ≤ (vcap : Int) := by omega
  have hro : Ro w2 2 (.slice (some ⟨g, off, none⟩) (L + 64) vcap) (L + 64) (flat (l ++ imarks 64)) := by
    have q := (unhide HGG).1
    rwa [show (l ++ imarks 64).length = L + 64 by rw [ilm_length, unhide hL]] at q
  have HRo := hide hro
  have hup := hro.upto rfl (k := L) hL64
  rw [flat_take, List.take_left' (unhide hL)] at hup
  have hrt : RtV w2 (.slice (some ⟨g, off, none⟩) L vcap) l := RtV.of_ro (by rw [unhide hL]; exact hup)
  have K3 := hide (unhide HS w2 _ hrt)
  clear hup hrt hgl hro
  go_wp2_with fail
  refine (unhide K3).mono ?_
  rintro e w3 ⟨rfl, hb3⟩
  have b2 : Below w.heap.size w w2 := Bl.go (unhide B1) (unhide B1).size (unhide HGG).2.1
  have b3 : Below w.heap.size w w3 := Bl.go b2 b2.size hb3
  have hro3 : Ro w3 2 (.slice (some ⟨g, off, none⟩) (L + 64) vcap) (L + 64) (flat (l ++ imarks 64)) := (unhide HRo).keep (fun k hk => hb3.block k ((unhide HRo).lt k hk))
  have hlen : (l ++ imarks 64).length = L + 64 := by rw [ilm_length, unhide hL]
  have K4 := hide (unhide HK w3 _ b3 (by rw [hlen]; exact hro3))
  have B3 := hide b3
  have e4 : ∀ (b : Bool) (w : World), (binOp .eql 4 (.bool b) (.bool b)).run Try.prog w = .ok (.bool true) w := fun b w => by cases b <;> kernel_rfl
  clear b2 b3 hb3 hro3 hlen
  go_wp2_with fail
  refine (unhide K4).mono ?_
  rintro e w4 ⟨rfl, hb4⟩
  have B4 := hide hb4
  clear hb4
  go_wp2_with fail
  go_ret
  exact ⟨rfl, Bl.go (unhide B3) (unhide B3).size (unhide B4)⟩
end Go.Proofs.Ytkmgmobdkahlpaa
