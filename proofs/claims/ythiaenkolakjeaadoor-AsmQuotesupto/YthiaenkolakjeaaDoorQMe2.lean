/-
  What stands at the beginning of any text between quotes: the program's own answer.
-/
import Derived.Test.YthiaenkolakjeaaDoorQPu2
namespace Go.Proofs.YthiaenkolakjeaaDoor
open Go.RowKit Go.Shelf
set_option linter.unusedVariables false
set_option linter.unusedSimpArgs false
/-- What the outer ParseUint answers. -/
def PuR (a b : Nat) (e : Ending) : Prop :=
  (a ≤ 15 ∧ b ≤ 15 ∧ e = .returned (.tuple #[.int .u64 ((16 * a + b : Nat) : Int), .nilIface])) ∨ (¬ (a ≤ 15 ∧ b ≤ 15) ∧ ∃ N : Nat, e = .returned (.tuple #[.int .u64 0, .iface 51 (.pointer (some ⟨N, 0, none⟩))]))
set_option maxHeartbeats 1000000 in
set_option maxRecDepth 100000 in
theorem pu2_any (t : ByteArray) (w : World) (hE : Er w) {x y : UInt8} (ht : t.data.toList = [x, y]) :
    Calls Tryd.prog 21 #[.string t, .int .i64 16, .int .i64 8] w fun e w' => PuR (dv x.toNat) (dv y.toNat) e ∧ Below w.heap.size w w' := by
  have HC := hide (ipu2_any t w ht)
  have hsz : Hid (t.size ≤ 281474976710656) := by unfold Hid; rw [size_list, ht]; simp
  have HEr := hide hE
  clear ht hE
  generalize dv x.toNat = a at HC ⊢
  generalize dv y.toNat = b at HC ⊢
  go_enter Tryd.func21, Tryd.ntmps21
  go_wp2_with fail
  refine (unhide HC).mono ?_
  rintro e W2 ⟨hI, hX⟩
  have HB : Hid (Below w.heap.size w W2) := by unfold Hid; rw [hX]; exact bw_below w t
  have HE2 : Hid (Er W2) := (unhide HEr).keep (unhide HB) (unhide HEr).size
  clear hX HC
  rcases hI with ⟨h1, h2, rfl⟩ | ⟨h1, rfl⟩
  · have HF : Hid (a ≤ 15 ∧ b ≤ 15) := ⟨h1, h2⟩
    clear h1 h2
    go_wp2_with fail
    go_ret2
    exact ⟨.inl ⟨(unhide HF).1, (unhide HF).2, rfl⟩, unhide HB⟩
  · have HF := hide h1
    clear h1
    go_wp2_with fail
    refine (toE_any _ t 16 8 W2 (unhide hsz) (unhide HE2)).mono ?_
    rintro e W3 ⟨⟨N, rfl⟩, hb3⟩
    have HB3 : Hid (Below w.heap.size w W3) := (unhide HB).trans (hb3.mono (unhide HB).size)
    clear hb3
    go_wp2_with fail
    go_ret2
    exact ⟨.inr ⟨unhide HF, N, rfl⟩, unhide HB3⟩
set_option maxHeartbeats 1000000 in
set_option maxRecDepth 100000 in
theorem hexed2_any (s : ByteArray) (w : World) (hE : Er w) {x y : UInt8} (h4 : 4 ≤ s.size) (hm : s.size ≤ 9223372036854775807) (ht : (s.extract 2 4).data.toList = [x, y]) :
    Calls Tryd.prog 19 #[.string s] w fun e w' => e = .returned (if dv x.toNat ≤ 15 ∧ dv y.toNat ≤ 15 then .tuple #[.int .u8 ((16 * dv x.toNat + dv y.toNat : Nat) : Int), .int .i64 4] else .tuple #[.int .u8 0, .int .i64 0]) ∧ Below w.heap.size w w' := by
  have HC := hide (pu2_any (s.extract 2 4) w hE ht)
  have g2 : ¬ (s.size : Int) < 4 := by omega
  have g3 : (4 : Int) ≤ (s.size : Int) := by omega
  clear ht hE
  generalize dv x.toNat = a at HC ⊢
  generalize dv y.toNat = b at HC ⊢
  obtain ⟨Z, hZ⟩ : ∃ Z : Value, Hid ((if a ≤ 15 ∧ b ≤ 15 then .tuple #[.int .u8 ((16 * a + b : Nat) : Int), .int .i64 4] else .tuple #[.int .u8 0, .int .i64 0]) = Z) := ⟨_, rfl⟩
  rw [unhide hZ]
  go_enter Tryd.func19, Tryd.ntmps19
  go_wp2_with fail
  refine (unhide HC).mono ?_
  rintro e W2 ⟨hI, hb⟩
  have HB := hide hb
  clear hb HC
  rcases hI with ⟨h1, h2, rfl⟩ | ⟨h1, N, rfl⟩
  · obtain ⟨n, hn⟩ : ∃ n, Hid (16 * a + b = n) := ⟨_, rfl⟩
    have g1 : IntKind.u8.wrap (n : Int) = (n : Int) := by rw [IntKind.wrap_u8]; have := unhide hn; omega
    have HZ : Hid (Z = .tuple #[.int .u8 (n : Int), .int .i64 4]) := by unfold Hid; rw [← unhide hZ, if_pos ⟨h1, h2⟩, unhide hn]
    rw [unhide hn]
    clear h1 h2
    go_wp2_with fail
    go_ret2
    exact ⟨by rw [unhide HZ]; rfl, unhide HB⟩
  · have HZ : Hid (Z = .tuple #[.int .u8 0, .int .i64 0]) := by unfold Hid; rw [← unhide hZ, if_neg h1]
    clear h1
    go_wp2_with fail
    go_ret2
    exact ⟨by rw [unhide HZ]; rfl, unhide HB⟩
set_option maxHeartbeats 1000000 in
set_option maxRecDepth 100000 in
theorem hexed0_any (s : ByteArray) (w : World) (h4 : s.size < 4) :
    Calls Tryd.prog 19 #[.string s] w fun e w' => e = .returned (.tuple #[.int .u8 0, .int .i64 0]) ∧ Below w.heap.size w w' := by
  have g2 : (s.size : Int) < 4 := by omega
  go_enter Tryd.func19, Tryd.ntmps19
  go_wp2_with fail
  go_ret2
  exact ⟨rfl, Below.refl _ _⟩
/-- The same, as the text's list has it. -/
theorem hexedL_any (s : ByteArray) (w : World) (hE : Er w) {c d : UInt8} {q : List UInt8} (hs : s.data.toList = c :: d :: q) (hc : c.toNat = 92) (hd : d.toNat = 120) (hm : s.size ≤ 9223372036854775807) :
    Calls Tryd.prog 19 #[.string s] w fun e w' => e = .returned (.tuple #[.int .u8 ((mn s.data.toList).1 : Int), .int .i64 ((mn s.data.toList).2 : Int)]) ∧ Below w.heap.size w w' := by
  have hsl := size_list s
  rw [hs] at hsl ⊢
  match q, hs, hsl with
  | [], hs, hsl =>
    have hv : mn [c, d] = (0, 0) := by simp [mn, hc, hd]
    rw [hv]
    exact hexed0_any s w (by rw [hsl]; simp)
  | [x], hs, hsl =>
    have hv : mn [c, d, x] = (0, 0) := by simp [mn, hc, hd]
    rw [hv]
    exact hexed0_any s w (by rw [hsl]; simp)
  | x :: y :: r, hs, hsl =>
    have hv : mn (c :: d :: x :: y :: r) = if dv x.toNat ≤ 15 ∧ dv y.toNat ≤ 15 then (16 * dv x.toNat + dv y.toNat, 4) else (0, 0) := by simp [mn, hc, hd]
    rw [hv]
    refine (hexed2_any s w hE (x := x) (y := y) (by rw [hsl]; simp) hm (by rw [ex_list, hs]; rfl)).mono ?_
    rintro e w' ⟨rfl, hb⟩
    refine ⟨?_, hb⟩
    split <;> rfl
set_option maxHeartbeats 1000000 in
set_option maxRecDepth 100000 in
theorem esc2_any (s : ByteArray) (w : World) (hE : Er w) {c : UInt8} {r : List UInt8} (hs : s.data.toList = c :: r) (hc : c.toNat = 92) (hm : s.size ≤ 9223372036854775807) :
    Calls Tryd.prog 16 #[.string s] w fun e w' => e = .returned (.tuple #[.int .u8 ((mn s.data.toList).1 : Int), .int .i64 ((mn s.data.toList).2 : Int)]) ∧ Below w.heap.size w w' := by
  have hsl := size_list s
  cases r with
  | nil =>
    have hv : mn [c] = (0, 0) := by simp [mn, hc]
    rw [hs] at hsl ⊢
    rw [hv]
    have g2 : (s.size : Int) < 2 := by rw [hsl]; simp
    clear hs hsl hv hm hE
    go_enter Tryd.func16, Tryd.ntmps16
    go_wp2_with fail
    go_ret2
    exact ⟨rfl, Below.refl _ _⟩
  | cons d q =>
    have HX := hide (fun (hd : d.toNat = 120) => hexedL_any s w hE hs hc hd hm)
    obtain ⟨_, e1⟩ := at_list (s := s) (i := 1) (x := d) (by rw [hs]; rfl)
    rw [hs] at hsl HX ⊢
    have g2 : ¬ (s.size : Int) < 2 := by rw [hsl]; simp; omega
    have g3 : (1 : Int) < (s.size : Int) := by rw [hsl]; simp; omega
    have g4 : 1 < s.size := by omega
    obtain ⟨m, hm2⟩ : ∃ m, d.toNat = m := ⟨_, rfl⟩
    have e2 : s[1].toNat = m := by rw [e1]; exact hm2
    by_cases k1 : m = 34 ∨ m = 92
    · have hv : mn (c :: d :: q) = (m, 2) := by simp [mn, hc, hm2, k1]
      rw [hv]
      clear hs hsl hv hm hE HX e1 hm2
      rcases k1 with rfl | rfl
      all_goals
        go_enter Tryd.func16, Tryd.ntmps16
        go_wp2_with fail
        go_ret2
        exact ⟨rfl, Below.refl _ _⟩
    have f1 : ((m : Int) == 34) = false := by simp; omega
    have f2 : ((m : Int) == 92) = false := by simp; omega
    by_cases k2 : m = 110
    · subst k2
      have hv : mn (c :: d :: q) = (10, 2) := by simp [mn, hc, hm2]
      rw [hv]
      clear hs hsl hv hm hE HX e1 hm2
      go_enter Tryd.func16, Tryd.ntmps16
      go_wp2_with fail
      go_ret2
      exact ⟨rfl, Below.refl _ _⟩
    have f3 : ((m : Int) == 110) = false := by simp; omega
    by_cases k3 : m = 120
    case neg =>
      have hv : mn (c :: d :: q) = (0, 0) := by simp [mn, hc, hm2, k1, k2, k3]
      rw [hv]
      have f4 : ((m : Int) == 120) = false := by simp; omega
      clear hs hsl hv hm hE HX e1 hm2
      go_enter Tryd.func16, Tryd.ntmps16
      go_wp2_with fail
      go_ret2
      exact ⟨rfl, Below.refl _ _⟩
    subst k3
    have HC := hide (unhide HX hm2)
    obtain ⟨A, hA⟩ : ∃ A, A = (mn (c :: d :: q)).1 := ⟨_, rfl⟩
    obtain ⟨B, hB⟩ : ∃ B, B = (mn (c :: d :: q)).2 := ⟨_, rfl⟩
    rw [← hA, ← hB] at HC ⊢
    clear hs hsl hm hE HX e1 hm2 hA hB
    go_enter Tryd.func16, Tryd.ntmps16
    go_wp2_with fail
    refine (unhide HC).mono ?_
    rintro e W2 ⟨rfl, hb⟩
    have HB := hide hb
    clear hb HC
    go_wp2_with fail
    go_ret2
    exact ⟨rfl, unhide HB⟩
set_option maxHeartbeats 1000000 in
set_option maxRecDepth 100000 in
theorem meant2_any (s : ByteArray) (w : World) (hE : Er w) (h0 : 0 < s.size) (hm : s.size ≤ 9223372036854775807) :
    Calls Tryd.prog 10 #[.string s] w fun e w' => e = .returned (.tuple #[.int .u8 ((mn s.data.toList).1 : Int), .int .i64 ((mn s.data.toList).2 : Int)]) ∧ Below w.heap.size w w' := by
  have hsl := size_list s
  obtain ⟨c, r, hs⟩ : ∃ c r, s.data.toList = c :: r := by
    cases h : s.data.toList with
    | nil => rw [h] at hsl; rw [hsl] at h0; exact absurd h0 (Nat.lt_irrefl 0)
    | cons c r => exact ⟨c, r, rfl⟩
  have HX := hide (fun (hc : c.toNat = 92) => esc2_any s w hE hs hc hm)
  obtain ⟨_, e1⟩ := at_list (s := s) (i := 0) (x := c) (by rw [hs]; rfl)
  rw [hs] at hsl HX ⊢
  have g0 : (0 : Int) < (s.size : Int) := by omega
  obtain ⟨n, hn⟩ : ∃ n, c.toNat = n := ⟨_, rfl⟩
  have e2 : s[0].toNat = n := by rw [e1]; exact hn
  by_cases h1 : n = 34 ∨ n = 10
  · have hv : mn (c :: r) = (0, 0) := by simp only [mn, hn, if_pos h1]
    rw [hv]
    clear hs hsl hv hm hE HX e1 hn
    rcases h1 with rfl | rfl
    all_goals
      go_enter Tryd.func10, Tryd.ntmps10
      go_wp2_with fail
      go_ret2
      exact ⟨rfl, Below.refl _ _⟩
  have d1 : ((n : Int) == 34) = false := by simp; omega
  have d2 : ((n : Int) == 10) = false := by simp; omega
  by_cases h2 : n = 92
  case neg =>
    have hv : mn (c :: r) = (n, 1) := by simp only [mn, hn, if_neg h1]; rw [if_pos h2]
    rw [hv]
    have d3 : ((n : Int) == 92) = false := by simp; omega
    clear hs hsl hv hm hE HX e1 hn
    go_enter Tryd.func10, Tryd.ntmps10
    go_wp2_with fail
    go_ret2
    exact ⟨rfl, Below.refl _ _⟩
  subst h2
  have HC := hide (unhide HX hn)
  obtain ⟨A, hA⟩ : ∃ A, A = (mn (c :: r)).1 := ⟨_, rfl⟩
  obtain ⟨B, hB⟩ : ∃ B, B = (mn (c :: r)).2 := ⟨_, rfl⟩
  rw [← hA, ← hB] at HC ⊢
  clear hs hsl hm hE HX e1 hn hA hB
  go_enter Tryd.func10, Tryd.ntmps10
  go_wp2_with fail
  refine (unhide HC).mono ?_
  rintro e W2 ⟨rfl, hb⟩
  have HB := hide hb
  clear hb HC
  go_wp2_with fail
  go_ret2
  exact ⟨rfl, unhide HB⟩
end Go.Proofs.YthiaenkolakjeaaDoor
