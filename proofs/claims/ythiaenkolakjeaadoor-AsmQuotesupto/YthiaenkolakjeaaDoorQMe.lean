/-
  What a quoted byte means.
-/
import Derived.Test.YthiaenkolakjeaaDoorQPu
namespace Go.Proofs.YthiaenkolakjeaaDoor
open Go.RowKit Go.Shelf
set_option linter.unusedVariables false
set_option linter.unusedSimpArgs false
theorem bw_below (w : World) (t : ByteArray) : Below w.heap.size w (Lib.bytesWorld w 5 t) := by
  refine ⟨rfl, rfl, rfl, by rw [Lib.bytesWorld_size]; omega, fun k hk => Lib.bytesWorld_at_old w 5 t k hk⟩
set_option maxHeartbeats 1000000 in
set_option maxRecDepth 100000 in
theorem pu_any (t : ByteArray) (w : World) {a b : Nat} (ha : a < 16) (hb : b < 16) (ht : t.data.toList = [hx a, hx b]) :
    Calls Tryd.prog 21 #[.string t, .int .i64 16, .int .i64 8] w fun e w' => e = .returned (.tuple #[.int .u64 ((16 * a + b : Nat) : Int), .nilIface]) ∧ Below w.heap.size w w' := by
  have HC := hide (ipu_any t w ha hb ht)
  go_enter Tryd.func21, Tryd.ntmps21
  go_wp2_with fail
  refine (unhide HC).mono ?_
  rintro e W2 ⟨rfl, hX⟩
  have HB : Hid (Below w.heap.size w W2) := by unfold Hid; rw [hX]; exact bw_below w t
  clear hX HC
  go_wp2_with fail
  go_ret2
  exact ⟨rfl, unhide HB⟩
set_option maxHeartbeats 1000000 in
set_option maxRecDepth 100000 in
theorem hexed_any (s : ByteArray) (w : World) {c : UInt8} (h4 : 4 ≤ s.size) (hm : s.size ≤ 9223372036854775807) (ht : (s.extract 2 4).data.toList = [hx (c.toNat / 16), hx (c.toNat % 16)]) :
    Calls Tryd.prog 19 #[.string s] w fun e w' => e = .returned (.tuple #[.int .u8 (c.toNat : Int), .int .i64 4]) ∧ Below w.heap.size w w' := by
  have hc := c.toNat_lt
  have HC := hide (pu_any (s.extract 2 4) w (a := c.toNat / 16) (b := c.toNat % 16) (by omega) (by omega) ht)
  have hv : 16 * (c.toNat / 16) + c.toNat % 16 = c.toNat := by omega
  rw [hv] at HC
  obtain ⟨n, hn⟩ : ∃ n, Hid (c.toNat = n) := ⟨_, rfl⟩
  rw [unhide hn] at HC hc ⊢
  have g1 : IntKind.u8.wrap (n : Int) = (n : Int) := by rw [IntKind.wrap_u8]; omega
  have g2 : ¬ (s.size : Int) < 4 := by omega
  have g3 : (4 : Int) ≤ (s.size : Int) := by omega
  go_enter Tryd.func19, Tryd.ntmps19
  go_wp2_with fail
  refine (unhide HC).mono ?_
  rintro e W2 ⟨rfl, hb⟩
  have HB := hide hb
  clear hb HC
  go_wp2_with fail
  go_ret2
  exact ⟨rfl, unhide HB⟩
set_option maxHeartbeats 1000000 in
set_option maxRecDepth 100000 in
theorem esc_any (s : ByteArray) (w : World) {c : UInt8} (h2 : 2 ≤ s.size) (e1 : s[1] = c) (hc : c.toNat = 34 ∨ c.toNat = 92) :
    Calls Tryd.prog 16 #[.string s] w fun e w' => e = .returned (.tuple #[.int .u8 (c.toNat : Int), .int .i64 2]) ∧ w' = w := by
  have g2 : ¬ (s.size : Int) < 2 := by omega
  have g3 : (1 : Int) < (s.size : Int) := by omega
  have g4 : 1 < s.size := by omega
  obtain ⟨n, hn⟩ : ∃ n, Hid (c.toNat = n) := ⟨_, rfl⟩
  have e2 : s[1].toNat = n := by rw [e1]; exact unhide hn
  have hcc := unhide hn
  rw [unhide hn] at hc ⊢
  rcases hc with rfl | rfl
  all_goals
    go_enter Tryd.func16, Tryd.ntmps16
    go_wp2_with fail
    go_ret2
    exact ⟨rfl, rfl⟩
set_option maxHeartbeats 1000000 in
set_option maxRecDepth 100000 in
theorem esn_any (s : ByteArray) (w : World) (h2 : 2 ≤ s.size) (e1 : s[1] = 110) :
    Calls Tryd.prog 16 #[.string s] w fun e w' => e = .returned (.tuple #[.int .u8 10, .int .i64 2]) ∧ w' = w := by
  have g2 : ¬ (s.size : Int) < 2 := by omega
  have g3 : (1 : Int) < (s.size : Int) := by omega
  have g4 : 1 < s.size := by omega
  have e2 : s[1].toNat = 110 := by rw [e1]; rfl
  go_enter Tryd.func16, Tryd.ntmps16
  go_wp2_with fail
  go_ret2
  exact ⟨rfl, rfl⟩
set_option maxHeartbeats 1000000 in
set_option maxRecDepth 100000 in
theorem esx_any (s : ByteArray) (w : World) {c : UInt8} (h4 : 4 ≤ s.size) (hm : s.size ≤ 9223372036854775807) (e1 : s[1] = 120) (ht : (s.extract 2 4).data.toList = [hx (c.toNat / 16), hx (c.toNat % 16)]) :
    Calls Tryd.prog 16 #[.string s] w fun e w' => e = .returned (.tuple #[.int .u8 (c.toNat : Int), .int .i64 4]) ∧ Below w.heap.size w w' := by
  have HC := hide (hexed_any s w h4 hm ht)
  have g2 : ¬ (s.size : Int) < 2 := by omega
  have g3 : (1 : Int) < (s.size : Int) := by omega
  have g4 : 1 < s.size := by omega
  have e2 : s[1].toNat = 120 := by rw [e1]; rfl
  go_enter Tryd.func16, Tryd.ntmps16
  go_wp2_with fail
  refine (unhide HC).mono ?_
  rintro e W2 ⟨rfl, hb⟩
  have HB := hide hb
  clear hb HC
  go_wp2_with fail
  go_ret2
  exact ⟨rfl, unhide HB⟩
/-- The byte at the beginning of a text between quotes. -/
theorem ex_list (s : ByteArray) (i j : Nat) : (s.extract i j).data.toList = (s.data.toList.take j).drop i := by
  rw [ByteArray.data_extract, Array.toList_extract]
  simp [List.extract, List.drop_take]
theorem size_list (s : ByteArray) : s.size = s.data.toList.length := by rw [Array.length_toList]; rfl
theorem at_list {s : ByteArray} {i : Nat} {x : UInt8} (h : s.data.toList[i]? = some x) : ∃ hi : i < s.size, s[i] = x := by
  have hi : i < s.size := by rw [size_list]; exact (List.getElem?_eq_some_iff.1 h).1
  refine ⟨hi, ?_⟩
  have := ba_at s hi
  rw [h] at this
  exact (Option.some.inj this).symm
set_option maxHeartbeats 1000000 in
set_option maxRecDepth 100000 in
theorem meant_any (s : ByteArray) (w : World) (c : UInt8) (r : List UInt8) (hs : s.data.toList = qb c ++ r) (hm : s.size ≤ 9223372036854775807) :
    Calls Tryd.prog 10 #[.string s] w fun e w' => e = .returned (.tuple #[.int .u8 (c.toNat : Int), .int .i64 ((qb c).length : Int)]) ∧ Below w.heap.size w w' := by
  have hsl := size_list s
  have hc := c.toNat_lt
  by_cases h1 : c.toNat = 34 ∨ c.toNat = 92
  · have e : qb c = [92, c] := by unfold qb; rw [if_pos h1]
    rw [e] at hs ⊢
    obtain ⟨i0, a0⟩ := at_list (s := s) (i := 0) (x := 92) (by rw [hs]; rfl)
    obtain ⟨i1, a1⟩ := at_list (s := s) (i := 1) (x := c) (by rw [hs]; rfl)
    have HC := hide (esc_any s w (by omega) a1 h1)
    have e2 : s[0].toNat = 92 := by rw [a0]; rfl
    have g0 : (0 : Int) < (s.size : Int) := by omega
    go_enter Tryd.func10, Tryd.ntmps10
    go_wp2_with fail
    refine (unhide HC).mono ?_
    rintro e W2 ⟨rfl, hX⟩
    obtain rfl := hX.symm
    clear hX
    go_wp2_with fail
    go_ret2
    exact ⟨rfl, Below.refl _ _⟩
  by_cases h2 : c.toNat = 10
  · have e : qb c = [92, 110] := by unfold qb; rw [if_neg h1, if_pos h2]
    rw [e] at hs ⊢
    obtain ⟨i0, a0⟩ := at_list (s := s) (i := 0) (x := 92) (by rw [hs]; rfl)
    obtain ⟨i1, a1⟩ := at_list (s := s) (i := 1) (x := 110) (by rw [hs]; rfl)
    have HC := hide (esn_any s w (by omega) a1)
    have e2 : s[0].toNat = 92 := by rw [a0]; rfl
    have g0 : (0 : Int) < (s.size : Int) := by omega
    rw [h2]
    go_enter Tryd.func10, Tryd.ntmps10
    go_wp2_with fail
    refine (unhide HC).mono ?_
    rintro e W2 ⟨rfl, hX⟩
    obtain rfl := hX.symm
    clear hX
    go_wp2_with fail
    go_ret2
    exact ⟨rfl, Below.refl _ _⟩
  by_cases h3 : 32 ≤ c.toNat ∧ c.toNat ≤ 126
  · have e : qb c = [c] := by unfold qb; rw [if_neg h1, if_neg h2, if_pos h3]
    rw [e] at hs ⊢
    obtain ⟨i0, a0⟩ := at_list (s := s) (i := 0) (x := c) (by rw [hs]; rfl)
    obtain ⟨n, hn⟩ : ∃ n, Hid (c.toNat = n) := ⟨_, rfl⟩
    have e2 : s[0].toNat = n := by rw [a0]; exact unhide hn
    have hcc := unhide hn
    rw [unhide hn] at h1 h2 ⊢
    have d1 : ((n : Int) == 34) = false := by simp; omega
    have d2 : ((n : Int) == 92) = false := by simp; omega
    have d3 : ((n : Int) == 10) = false := by simp; omega
    have g0 : (0 : Int) < (s.size : Int) := by omega
    go_enter Tryd.func10, Tryd.ntmps10
    go_wp2_with fail
    go_ret2
    exact ⟨rfl, Below.refl _ _⟩
  · have e : qb c = [92, 120, hx (c.toNat / 16), hx (c.toNat % 16)] := by unfold qb; rw [if_neg h1, if_neg h2, if_neg h3]
    rw [e] at hs ⊢
    obtain ⟨i0, a0⟩ := at_list (s := s) (i := 0) (x := 92) (by rw [hs]; rfl)
    obtain ⟨i1, a1⟩ := at_list (s := s) (i := 1) (x := 120) (by rw [hs]; rfl)
    have h4 : 4 ≤ s.size := by rw [hsl, hs]; simp
    have HC := hide (esx_any s w (c := c) h4 hm a1 (by rw [ex_list, hs]; rfl))
    have e2 : s[0].toNat = 92 := by rw [a0]; rfl
    have g0 : (0 : Int) < (s.size : Int) := by omega
    go_enter Tryd.func10, Tryd.ntmps10
    go_wp2_with fail
    refine (unhide HC).mono ?_
    rintro e W2 ⟨rfl, hb⟩
    have HB := hide hb
    clear hb
    go_wp2_with fail
    go_ret2
    exact ⟨rfl, unhide HB⟩
end Go.Proofs.YthiaenkolakjeaaDoor
