/-
  Quote.
-/
import Derived.Test.YthiaenkolakjeaaDoorQWr
namespace Go.Proofs.YthiaenkolakjeaaDoor
open Go.RowKit Go.Shelf
set_option linter.unusedVariables false
set_option linter.unusedSimpArgs false
/-- A hexadecimal digit. -/
def hx (n : Nat) : UInt8 := if n < 10 then UInt8.ofNat (48 + n) else UInt8.ofNat (87 + n)
/-- A byte as it stands between quotes. -/
def qb (c : UInt8) : List UInt8 := if c.toNat = 34 ∨ c.toNat = 92 then [92, c] else if c.toNat = 10 then [92, 110] else if 32 ≤ c.toNat ∧ c.toNat ≤ 126 then [c] else [92, 120, hx (c.toNat / 16), hx (c.toNat % 16)]
theorem qb_le (c : UInt8) : (qb c).length ≤ 4 := by
  unfold qb
  repeat' split
  all_goals simp
theorem dg_hx {m : Nat} (h : m < (⟨#[48, 49, 50, 51, 52, 53, 54, 55, 56, 57, 97, 98, 99, 100, 101, 102]⟩ : ByteArray).size) : (⟨#[48, 49, 50, 51, 52, 53, 54, 55, 56, 57, 97, 98, 99, 100, 101, 102]⟩ : ByteArray)[m] = hx m := by
  have key : ∀ k : Fin 16, (⟨#[48, 49, 50, 51, 52, 53, 54, 55, 56, 57, 97, 98, 99, 100, 101, 102]⟩ : ByteArray)[k.val]'k.2 = hx k.val := by decide
  exact key ⟨m, h⟩
theorem ws2 {B b : Nat} {l : List UInt8} {w : World} (h : Bd B b l w) (x y : UInt8) (hl : l.length + 2 ≤ 140737488355328) :
    Calls Tryd.prog 18 #[.pointer (some ⟨b, 0, none⟩), .string { data := #[x, y] }] w fun e w' => e = .returned (.tuple #[.int .i64 2, .nilIface]) ∧ Bd B b (l ++ [x, y]) w' ∧ Below B w w' :=
  ws_any h { data := #[x, y] } hl
set_option maxHeartbeats 800000 in
set_option maxRecDepth 100000 in
theorem qbyte_any {B b : Nat} {l : List UInt8} {w : World} (h : Bd B b l w) (c : UInt8) (hl : l.length + 4 ≤ 140737488355328) :
    Calls Tryd.prog 13 #[.pointer (some ⟨b, 0, none⟩), .int .u8 (c.toNat : Int)] w fun e w' => e = .returned (.tuple #[]) ∧ Bd B b (l ++ qb c) w' ∧ Below B w w' := by
  have HW := hide (fun (l : List UInt8) (w : World) (h : Bd B b l w) (c : UInt8) (hl : l.length + 1 ≤ 140737488355328) => wb_any h c hl)
  have HS := hide (fun (x y : UInt8) => ws2 h x y (by omega))
  have HH := hide h
  obtain ⟨n, hn⟩ : ∃ n, Hid (c.toNat = n) := ⟨_, rfl⟩
  have hn2 : n < 256 := by rw [← unhide hn]; exact c.toNat_lt
  have HWC : Hid (∀ (l : List UInt8) (w : World) (h : Bd B b l w) (hl : l.length + 1 ≤ 140737488355328), Calls Tryd.prog 11 #[.pointer (some ⟨b, 0, none⟩), .int .u8 (n : Int)] w fun e w' => e = .returned .nilIface ∧ Bd B b (l ++ [c]) w' ∧ Below B w w') := fun l w h hl => by
    have := wb_any h c hl
    rw [unhide hn] at this
    exact this
  rw [unhide hn]
  have HQB : Hid (qb c = if n = 34 ∨ n = 92 then [92, c] else if n = 10 then [92, 110] else if 32 ≤ n ∧ n ≤ 126 then [c] else [92, 120, hx (n / 16), hx (n % 16)]) := by
    unfold Hid qb
    rw [unhide hn]
  clear h
  by_cases h1 : n = 34 ∨ n = 92
  · have e1 : Hid (qb c = [92, c]) := by unfold Hid; rw [unhide HQB, if_pos h1]
    have c1 : ((n : Int) == 34 || (n : Int) == 92) = true := by simp; omega
    have hfin : ∀ w1 w2 : World, Below B w w1 → Bd B b (l ++ [92]) w1 → Bd B b (l ++ [92] ++ [c]) w2 → Below B w1 w2 → Bd B b (l ++ qb c) w2 ∧ Below B w w2 := fun w1 w2 a b' c' d => ⟨by rw [unhide e1]; simpa using c', a.trans d⟩
    have HFIN := hide hfin
    clear hfin
    rcases h1 with rfl | rfl
    all_goals
      go_enter Tryd.func13, Tryd.ntmps13
      go_wp2_with fail
      refine (unhide HW l w (unhide HH) 92 (by omega)).mono ?_
      rintro e w1 ⟨rfl, b1, f1⟩
      have HB1 := hide b1
      have HF1 := hide f1
      clear b1 f1
      go_wp2_with fail
      refine (unhide HWC _ _ (unhide HB1) (by simp; omega)).mono ?_
      rintro e w2 ⟨rfl, b2, f2⟩
      have R := hide (unhide HFIN w1 w2 (unhide HF1) (unhide HB1) b2 f2)
      clear b2 f2
      go_wp2_with fail
      go_end0
      exact ⟨rfl, unhide R⟩
  by_cases h2 : n = 10
  · subst h2
    have e1 : Hid (qb c = [92, 110]) := by unfold Hid; rw [unhide HQB, if_neg h1, if_pos rfl]
    go_enter Tryd.func13, Tryd.ntmps13
    go_wp2_with fail
    refine (unhide HS 92 110).mono ?_
    rintro e w1 ⟨rfl, b1, f1⟩
    have HB1 := hide b1
    have HF1 := hide f1
    clear b1 f1
    go_wp2_with fail
    go_end0
    exact ⟨rfl, by rw [unhide e1]; exact unhide HB1, unhide HF1⟩
  have d1 : ((n : Int) == 34) = false := by simp; omega
  have d2 : ((n : Int) == 92) = false := by simp; omega
  have d3 : ((n : Int) == 10) = false := by simp; omega
  by_cases h3 : 32 ≤ n ∧ n ≤ 126
  · have e1 : Hid (qb c = [c]) := by unfold Hid; rw [unhide HQB, if_neg h1, if_neg h2, if_pos h3]
    have d4 : (32 : Int) ≤ (n : Int) := by omega
    have d5 : (n : Int) ≤ 126 := by omega
    go_enter Tryd.func13, Tryd.ntmps13
    go_wp2_with fail
    refine (unhide HWC _ _ (unhide HH) (by omega)).mono ?_
    rintro e w1 ⟨rfl, b1, f1⟩
    have HB1 := hide b1
    have HF1 := hide f1
    clear b1 f1
    go_wp2_with fail
    go_end0
    exact ⟨rfl, by rw [unhide e1]; exact unhide HB1, unhide HF1⟩
  · have e1 : Hid (qb c = [92, 120, hx (n / 16), hx (n % 16)]) := by unfold Hid; rw [unhide HQB, if_neg h1, if_neg h2, if_neg h3]
    have d4 : (decide ((32 : Int) ≤ (n : Int)) && decide ((n : Int) ≤ 126)) = false := by simp; omega
    by_cases h4 : n < 32
    · have d5 : ¬ (32 : Int) ≤ (n : Int) := by omega
      go_enter Tryd.func13, Tryd.ntmps13
      go_wp2_with fail
      refine (unhide HS 92 120).mono ?_
      rintro e w1 ⟨rfl, b1, f1⟩
      have HB1 := hide b1
      have HF1 := hide f1
      clear b1 f1
      go_wp2_with fail
      refine (unhide HW _ w1 (unhide HB1) _ (by simp; omega)).mono ?_
      rintro e w2 ⟨rfl, b2, f2⟩
      rw [dg_hx] at b2
      have HB2 := hide b2
      have HF2 : Hid (Below B w w2) := (unhide HF1).trans f2
      clear b2 f2
      go_wp2_with fail
      refine (unhide HW _ w2 (unhide HB2) _ (by simp; omega)).mono ?_
      rintro e w3 ⟨rfl, b3, f3⟩
      rw [dg_hx] at b3
      have HB3 : Hid (Bd B b (l ++ qb c) w3) := by
        unfold Hid
        rw [unhide e1]
        simpa using b3
      have HF3 : Hid (Below B w w3) := (unhide HF2).trans f3
      clear b3 f3
      go_wp2_with fail
      go_end0
      exact ⟨rfl, unhide HB3, unhide HF3⟩
    · have d5 : (32 : Int) ≤ (n : Int) := by omega
      have d6 : ¬ (n : Int) ≤ 126 := by omega
      go_enter Tryd.func13, Tryd.ntmps13
      go_wp2_with fail
      refine (unhide HS 92 120).mono ?_
      rintro e w1 ⟨rfl, b1, f1⟩
      have HB1 := hide b1
      have HF1 := hide f1
      clear b1 f1
      go_wp2_with fail
      refine (unhide HW _ w1 (unhide HB1) _ (by simp; omega)).mono ?_
      rintro e w2 ⟨rfl, b2, f2⟩
      rw [dg_hx] at b2
      have HB2 := hide b2
      have HF2 : Hid (Below B w w2) := (unhide HF1).trans f2
      clear b2 f2
      go_wp2_with fail
      refine (unhide HW _ w2 (unhide HB2) _ (by simp; omega)).mono ?_
      rintro e w3 ⟨rfl, b3, f3⟩
      rw [dg_hx] at b3
      have HB3 : Hid (Bd B b (l ++ qb c) w3) := by
        unfold Hid
        rw [unhide e1]
        simpa using b3
      have HF3 : Hid (Below B w w3) := (unhide HF2).trans f3
      clear b3 f3
      go_wp2_with fail
      go_end0
      exact ⟨rfl, unhide HB3, unhide HF3⟩
end Go.Proofs.YthiaenkolakjeaaDoor
