/-
  The document's one.
-/
import Derived.Test.YthiaenkolakjeaaDoorQWo
import Derived.Deep.RegionHeld3
namespace Go.Proofs.YthiaenkolakjeaaDoor
open Go.RowKit Go.Shelf
set_option linter.unusedVariables false
set_option linter.unusedSimpArgs false
theorem part_at {L l : List UInt8} {i E j : Nat} {x : UInt8} (hl : (L.take E).drop i = l) (hx : l[j]? = some x) : L[i + j]? = some x ∧ i + j < E := by
  rw [← hl, List.getElem?_drop] at hx
  have h1 : i + j < E := by
    have := (List.getElem?_eq_some_iff.1 hx).1
    rw [List.length_take] at this
    omega
  rw [List.getElem?_take, if_pos h1] at hx
  exact ⟨hx, h1⟩
theorem part_len {L l : List UInt8} {i E : Nat} (hl : (L.take E).drop i = l) (hE : E ≤ L.length) : l.length = E - i := by
  rw [← hl, List.length_drop, List.length_take, Nat.min_eq_left hE]
set_option maxHeartbeats 2000000 in
set_option maxRecDepth 100000 in
theorem one_any (s : ByteArray) (w : World) (i E : Nat) (l : List UInt8) (hl : (s.data.toList.take E).drop i = l) (hiE : i < E) (hE : E < s.size) (hm : s.size ≤ 4611686018427387904) :
    Calls Tryd.prog 9 #[.string s, .int .i64 (i : Int), .int .i64 (E : Int)] w fun e w' => e = .returned (.tuple #[.int .u8 ((mn l).1 : Int), .int .i64 ((mn l).2 : Int)]) ∧ Below w.heap.size w w' := by
  have hsl := size_list s
  have hll := part_len hl (by omega)
  have i0 : (0 : Int) ≤ (i : Int) := by omega
  have i1 : (i : Int) < (s.size : Int) := by omega
  have w1 : IntKind.i64.wrap ((i : Int) + 1) = ((i + 1 : Nat) : Int) := by rw [IntKind.wrap_i64]; omega
  cases l with
  | nil => simp at hll; omega
  | cons c r =>
    obtain ⟨a0, _⟩ := part_at (j := 0) (x := c) hl rfl
    obtain ⟨_, e0⟩ := at_list a0
    simp only [Nat.add_zero] at e0
    obtain ⟨n, hn⟩ : ∃ n, c.toNat = n := ⟨_, rfl⟩
    by_cases h1 : n = 34 ∨ n = 10
    · have hv : mn (c :: r) = (0, 0) := by simp only [mn, hn, if_pos h1]
      rw [hv]
      clear hl hll a0 hsl hv
      rcases h1 with rfl | rfl
      all_goals
        go_enter Tryd.func9, Tryd.ntmps9
        go_wp2_with fail
        go_ret2
        exact ⟨rfl, Below.refl _ _⟩
    have d1 : ((n : Int) == 34) = false := by simp; omega
    have d2 : ((n : Int) == 10) = false := by simp; omega
    by_cases h2 : n = 92
    case neg =>
      have hv : mn (c :: r) = (n, 1) := by simp only [mn, hn, if_neg h1]; rw [if_pos h2]
      rw [hv]
      have d3 : ((n : Int) != 92) = true := by simp; omega
      clear hl hll a0 hsl hv
      go_enter Tryd.func9, Tryd.ntmps9
      go_wp2_with fail
      go_ret2
      exact ⟨rfl, Below.refl _ _⟩
    subst h2
    obtain ⟨I1, hI1⟩ : ∃ k : Nat, k = i + 1 := ⟨_, rfl⟩
    rw [← hI1] at w1
    cases r with
    | nil =>
      have hv : mn [c] = (0, 0) := by simp [mn, hn]
      rw [hv]
      simp at hll
      have g : (E : Int) ≤ (I1 : Int) := by omega
      clear hl hll a0 hsl hv
      go_enter Tryd.func9, Tryd.ntmps9
      go_wp2_with fail
      go_ret2
      exact ⟨rfl, Below.refl _ _⟩
    | cons d q =>
      obtain ⟨a1, b1⟩ := part_at (j := 1) (x := d) hl rfl
      rw [← hI1] at a1 b1
      obtain ⟨_, e1⟩ := at_list a1
      have g : ¬ (E : Int) ≤ (I1 : Int) := by omega
      have g2 : (0 : Int) ≤ (I1 : Int) := by omega
      have g3 : (I1 : Int) < (s.size : Int) := by omega
      obtain ⟨m, hm2⟩ : ∃ m, d.toNat = m := ⟨_, rfl⟩
      by_cases k1 : m = 34 ∨ m = 92
      · have hv : mn (c :: d :: q) = (m, 2) := by simp [mn, hn, hm2, k1]
        rw [hv]
        clear hl hll a0 a1 hsl hv hI1 b1
        rcases k1 with rfl | rfl
        all_goals
          go_enter Tryd.func9, Tryd.ntmps9
          go_wp2_with fail
          go_ret2
          exact ⟨rfl, Below.refl _ _⟩
      have f1 : ((m : Int) == 34) = false := by simp; omega
      have f2 : ((m : Int) == 92) = false := by simp; omega
      by_cases k2 : m = 110
      · subst k2
        have hv : mn (c :: d :: q) = (10, 2) := by simp [mn, hn, hm2]
        rw [hv]
        clear hl hll a0 a1 hsl hv hI1 b1
        go_enter Tryd.func9, Tryd.ntmps9
        go_wp2_with fail
        go_ret2
        exact ⟨rfl, Below.refl _ _⟩
      have f3 : ((m : Int) == 110) = false := by simp; omega
      by_cases k3 : m = 120
      case neg =>
        have hv : mn (c :: d :: q) = (0, 0) := by simp [mn, hn, hm2, k1, k2, k3]
        rw [hv]
        have f4 : ((m : Int) != 120) = true := by simp; omega
        clear hl hll a0 a1 hsl hv hI1 b1
        go_enter Tryd.func9, Tryd.ntmps9
        go_wp2_with fail
        go_ret2
        exact ⟨rfl, Below.refl _ _⟩
      subst k3
      have f4 : (((120 : Nat) : Int) != 120) = false := by simp
      obtain ⟨I3, hI3⟩ : ∃ k : Nat, k = i + 3 := ⟨_, rfl⟩
      have w3 : IntKind.i64.wrap ((i : Int) + 3) = (I3 : Int) := by rw [IntKind.wrap_i64]; omega
      by_cases hq2 : q.length < 2
      · have hv : mn (c :: d :: q) = (0, 0) := by
          match q, hq2 with
          | [], _ => simp [mn, hn, hm2]
          | [x], _ => simp [mn, hn, hm2]
        rw [hv]
        simp at hll
        have g5 : (E : Int) ≤ (I3 : Int) := by omega
        clear hl hll a0 a1 hsl hv hI1 b1 hI3
        go_enter Tryd.func9, Tryd.ntmps9
        go_wp2_with fail
        go_ret2
        exact ⟨rfl, Below.refl _ _⟩
      match q, hq2 with
      | [], h => simp at h
      | [x], h => simp at h
      | x :: y :: t, _ =>
        obtain ⟨I2, hI2⟩ : ∃ k : Nat, k = i + 2 := ⟨_, rfl⟩
        have w2 : IntKind.i64.wrap ((i : Int) + 2) = (I2 : Int) := by rw [IntKind.wrap_i64]; omega
        obtain ⟨a2, b2⟩ := part_at (j := 2) (x := x) hl rfl
        obtain ⟨a3, b3⟩ := part_at (j := 3) (x := y) hl rfl
        rw [← hI2] at a2 b2
        rw [← hI3] at a3 b3
        obtain ⟨_, e2⟩ := at_list a2
        obtain ⟨_, e3⟩ := at_list a3
        have g5 : ¬ (E : Int) ≤ (I3 : Int) := by omega
        have g6 : (0 : Int) ≤ (I2 : Int) := by omega
        have g7 : (I2 : Int) < (s.size : Int) := by omega
        have g8 : (0 : Int) ≤ (I3 : Int) := by omega
        have g9 : (I3 : Int) < (s.size : Int) := by omega
        have hx256 := x.toNat_lt
        have hy256 := y.toNat_lt
        have HX := hide (fun w => worth_any w x.toNat hx256)
        have HY := hide (fun w => worth_any w y.toNat hy256)
        obtain ⟨X, hX⟩ : ∃ X, Hid (dv x.toNat = X) := ⟨_, rfl⟩
        obtain ⟨Y, hY⟩ : ∃ Y, Hid (dv y.toNat = Y) := ⟨_, rfl⟩
        rw [unhide hX] at HX
        rw [unhide hY] at HY
        have hvv : mn (c :: d :: x :: y :: t) = if X ≤ 15 ∧ Y ≤ 15 then (16 * X + Y, 4) else (0, 0) := by
          rw [← unhide hX, ← unhide hY]
          simp [mn, hn, hm2]
        rw [hvv]
        clear hl hll a0 a1 a2 a3 hsl hvv hI1 hI2 hI3 b1 b2 b3
        by_cases hx15 : X ≤ 15
        case neg =>
          rw [if_neg (fun h => hx15 h.1)]
          have p1 : 15 < (X : Int) := by omega
          go_enter Tryd.func9, Tryd.ntmps9
          go_wp2_with fail
          refine (unhide HX _).mono ?_
          rintro e W2 ⟨rfl, hE2⟩
          obtain rfl := hE2.symm
          clear hE2
          go_wp2_with fail
          go_ret2
          exact ⟨rfl, Below.refl _ _⟩
        have p1 : ¬ 15 < (X : Int) := by omega
        by_cases hy15 : Y ≤ 15
        case neg =>
          rw [if_neg (fun h => hy15 h.2)]
          have p2 : 15 < (Y : Int) := by omega
          go_enter Tryd.func9, Tryd.ntmps9
          go_wp2_with fail
          refine (unhide HX _).mono ?_
          rintro e W2 ⟨rfl, hE2⟩
          obtain rfl := hE2.symm
          clear hE2
          go_wp2_with fail
          refine (unhide HY _).mono ?_
          rintro e W2 ⟨rfl, hE2⟩
          obtain rfl := hE2.symm
          clear hE2
          go_wp2_with fail
          go_ret2
          exact ⟨rfl, Below.refl _ _⟩
        rw [if_pos ⟨hx15, hy15⟩]
        have p2 : ¬ 15 < (Y : Int) := by omega
        obtain ⟨R, hR⟩ : ∃ R : Int, Hid (R = ((16 * X + Y : Nat) : Int)) := ⟨_, rfl⟩
        obtain ⟨Z, hZ⟩ : ∃ Z : Int, Hid (Z = 16 * (X : Int)) := ⟨_, rfl⟩
        have n1 : IntKind.i64.wrap (16 * (X : Int)) = Z := by rw [IntKind.wrap_i64, unhide hZ]; omega
        have n2 : IntKind.i64.wrap (Z + (Y : Int)) = R := by rw [IntKind.wrap_i64, unhide hZ, unhide hR]; omega
        have n3 : IntKind.u8.wrap R = R := by rw [IntKind.wrap_u8, unhide hR]; omega
        rw [← unhide hR]
        go_enter Tryd.func9, Tryd.ntmps9
        go_wp2_with fail
        refine (unhide HX _).mono ?_
        rintro e W2 ⟨rfl, hE2⟩
        obtain rfl := hE2.symm
        clear hE2
        go_wp2_with fail
        refine (unhide HY _).mono ?_
        rintro e W2 ⟨rfl, hE2⟩
        obtain rfl := hE2.symm
        clear hE2
        go_wp2_with fail
        refine wp_region_held_drew (S := (fun wx => wx = w.drew)) (by kernel_rfl) rfl (fun hHeld => ?_)
        refine wpAnyH_take (i := 0) (oi := _) (v := .string s) rfl (by kernel_rfl) (by kernel_rfl) (by kernel_rfl) (fun _ _ _ h => h) (Or.inl ⟨by rfl, (by intro wz hSw; go_simp)⟩) (by assumption) ?_
        go_simp
        refine wpAnyH_take (i := 1) (oi := _) (v := .int .i64 (i : Int)) rfl (by kernel_rfl) (by kernel_rfl) (by kernel_rfl) (fun _ _ _ h => h) (Or.inl ⟨by rfl, (by intro wz hSw; go_simp)⟩) (by assumption) ?_
        go_simp
        refine wpAnyH_take (i := 2) (oi := _) (v := .int .i64 (I2 : Int)) rfl (by kernel_rfl) (by kernel_rfl) (by kernel_rfl) (fun _ _ _ h => h) (Or.inl ⟨by rfl, (by intro wz hSw; go_simp)⟩) (by assumption) ?_
        go_simp
        refine wpAnyH_take (i := 3) (oi := _) (v := .int .u8 (x.toNat : Int)) rfl (by kernel_rfl) (by kernel_rfl) (by kernel_rfl) (fun _ _ _ h => h) (Or.inl ⟨by rfl, (by intro wz hSw; go_simp)⟩) (by assumption) ?_
        go_simp
        refine wpAnyH_take (i := 6) (oi := _) (v := .string s) rfl (by kernel_rfl) (by kernel_rfl) (by kernel_rfl) (fun _ _ _ h => h) (Or.inl ⟨by rfl, (by intro wz hSw; go_simp)⟩) (by assumption) ?_
        go_simp
        refine wpAnyH_take (i := 7) (oi := _) (v := .int .i64 (i : Int)) rfl (by kernel_rfl) (by kernel_rfl) (by kernel_rfl) (fun _ _ _ h => h) (Or.inl ⟨by rfl, (by intro wz hSw; go_simp)⟩) (by assumption) ?_
        go_simp
        refine wpAnyH_take (i := 8) (oi := _) (v := .int .i64 (I3 : Int)) rfl (by kernel_rfl) (by kernel_rfl) (by kernel_rfl) (fun _ _ _ h => h) (Or.inl ⟨by rfl, (by intro wz hSw; go_simp)⟩) (by assumption) ?_
        go_simp
        refine wpAnyH_take (i := 9) (oi := _) (v := .int .u8 (y.toNat : Int)) rfl (by kernel_rfl) (by kernel_rfl) (by kernel_rfl) (fun _ _ _ h => h) (Or.inl ⟨by rfl, (by intro wz hSw; go_simp)⟩) (by assumption) ?_
        go_simp
        refine wpAnyH_ready (rs := [4]) (by kernel_rfl) (by simp) ?_
        refine AllReadyH.cons (o := _) rfl (fun K hK => ?_) AllReadyH.nil
        go_simp
        refine (unhide HX _).mono ?_
        rintro e W3 ⟨rfl, hE3⟩
        refine hK.out _ _ hE3 (fun hHeld4x => ?_)
        clear hK K
        obtain rfl := hE3.symm
        go_simp
        refine wpAnyH_take (i := 5) (oi := _) (v := .int .i64 Z) rfl (by kernel_rfl) (by kernel_rfl) (by kernel_rfl) (fun _ _ _ h => h) (Or.inl ⟨by rfl, (by intro wz hSw; go_simp)⟩) (by assumption) ?_
        go_simp
        refine wpAnyH_ready (rs := [10]) (by kernel_rfl) (by simp) ?_
        refine AllReadyH.cons (o := _) rfl (fun K hK => ?_) AllReadyH.nil
        go_simp
        refine (unhide HY _).mono ?_
        rintro e W4 ⟨rfl, hE4⟩
        refine hK.out _ _ hE4 (fun hHeld10x => ?_)
        clear hK K
        obtain rfl := hE4.symm
        go_simp
        refine wpAnyH_take (i := 11) (oi := _) (v := .int .i64 R) rfl (by kernel_rfl) (by kernel_rfl) (by kernel_rfl) (fun _ _ _ h => h) (Or.inl ⟨by rfl, (by intro wz hSw; go_simp)⟩) (by assumption) ?_
        go_simp
        refine wpAnyH_take (i := 12) (oi := _) (v := .int .u8 R) rfl (by kernel_rfl) (by kernel_rfl) (by kernel_rfl) (fun _ _ _ h => h) (Or.inl ⟨by rfl, (by intro wz hSw; go_simp)⟩) (by assumption) ?_
        go_simp
        refine wpAnyH_take (i := 13) (oi := _) (v := .int .u8 R) rfl (by kernel_rfl) (by kernel_rfl) (by kernel_rfl) (fun _ _ _ h => h) (Or.inl ⟨by rfl, (by intro wz hSw; go_simp)⟩) (by assumption) ?_
        go_simp
        refine wpAnyH_take (i := 14) (oi := _) (v := .int .i64 4) rfl (by kernel_rfl) (by kernel_rfl) (by kernel_rfl) (fun _ _ _ h => h) (Or.inl ⟨by rfl, (by intro wz hSw; go_simp)⟩) (by assumption) ?_
        go_simp
        refine wpAnyH_done (by kernel_rfl) ?_ _
        go_wp2_with fail
        go_ret2
        exact ⟨rfl, ⟨rfl, rfl, rfl, Nat.le_refl _, fun _ _ => rfl⟩⟩
end Go.Proofs.YthiaenkolakjeaaDoor
