/-
  What the two iterators hand over.
-/
import Derived.Test.YtfeombhileiamaaRng
import Derived.Test.YtfeombhileiamaaAsks
namespace Go.Proofs.Ytfeombhileiamaa
open Go.RowKit Go.Shelf
set_option linter.unusedVariables false

/-- A list of numbers is handed over, one a round. -/
def encN (ds : List Int) (k : Nat) : Array Value := #[.int .i64 (ds.getD k 0)]
def Acn (ds : List Int) (k : Nat) : Prop := k < ds.length
def Ecn (ds : List Int) (k : Nat) : Prop := k = ds.length
/-- The two boxes hold a number and a list. -/
def Vc (Bf Bu : Nat) (b : Int) (uv : Value) (up : List Int) (_ : Nat) (X : World) : Prop :=
  X.cell? ⟨Bf, 0, none⟩ = some (.int .i64 b) ∧ X.cell? ⟨Bu, 0, none⟩ = some uv ∧ Rn X uv up
/-- The box holds a list. -/
def Vl (Bl : Nat) (lv : Value) (l : List Int) (_ : Nat) (X : World) : Prop := X.cell? ⟨Bl, 0, none⟩ = some lv ∧ Rn X lv l

set_option maxRecDepth 100000 in
set_option maxHeartbeats 1600000 in
theorem doms1_hands (n : Nat) (Bl : Nat) (lv : Value) (l : List Int) : Hands Fence.wide n Try.prog 17 #[.pointer (some ⟨Bl, 0, none⟩)] (encN l) (Acn l) (Ecn l) (Vl Bl lv l) := by
  intro lp J Jx W hV hB hBx hY h0
  have HY := hide hY
  have HV := hide hV
  clear hV hB hBx hY
  obtain ⟨c0, r0⟩ := unhide HV 0 W h0
  obtain ⟨a, cap, rfl, hlc, hcm⟩ := r0.shape
  obtain ⟨N, hN⟩ : ∃ N, Hid (l.length = N) := ⟨_, rfl⟩
  have hNm : N ≤ maxLen := by rw [← unhide hN]; omega
  unfold maxLen at hNm
  rw [unhide hN] at c0 HV
  have H0 := hide h0
  clear r0 h0 hlc hcm
  refine callsIn_of_wp Try.func17 rfl trivial ?_ rfl
  simp only [Try.ntmps17, List.size_toArray, List.length_cons, List.length_nil, Nat.reduceAdd, Nat.reduceSub, Array.replicate_succ, Array.replicate_zero, List.push_toArray, List.append_toArray, List.nil_append, List.cons_append]
  gi_wp2_with fail
  gi_loopw [7] (fun i wr => ∃ k : Nat, Hid (k ≤ N) ∧ i = .int .i64 k ∧ Hid (J k wr)) (fun i _ => N - (intOf i).toNat)
  case atStart => exact ⟨0, Nat.zero_le _, rfl, H0⟩
  case round =>
    obtain ⟨k, hk, rfl, HJ⟩ := hrel
    clear c0 H0
    have i0 : (0 : Int) ≤ (k : Int) := by omega
    by_cases hlt : k < N
    · have i1 : (k : Int) < (N : Int) := by omega
      obtain ⟨c1, r1⟩ := unhide HV k wr (unhide HJ)
      obtain ⟨x, hx⟩ : ∃ x, l[k]? = some x := ⟨_, List.getElem?_eq_getElem (by rw [unhide hN]; exact hlt)⟩
      obtain ⟨b, off, c', e, hb, q0⟩ := r1.at hx
      rw [unhide hN] at e
      cases e
      obtain ⟨fn, tmps, assign, body, hy, hR⟩ := unhide HY k wr (unhide HJ) (by unfold Acn; rw [unhide hN]; exact hlt)
      unfold encN at hy
      rw [List.getD_eq_getElem?_getD, hx, Option.getD_some] at hy
      have HR := hide hR
      clear r1 hx hR
      gi_wp2_with fail
      refine ⟨(fun q => by cases q), (unhide HR).mono ?_⟩
      rintro e W3 (⟨rfl, hJ3⟩ | ⟨rfl, hJx3⟩)
      · have HJ3 := hide hJ3
        clear hJ3 HR hy
        gi_wp2_with fail
        go_roundw
        case rel => exact ⟨k + 1, hlt, by go_num, HJ3⟩
        case measure => simp [intOf]; omega
      · have HJ3 := hide hJx3
        clear hJx3 HR hy
        gi_wp2_with fail
        refine bodyPost_ret (results_none rfl _ _ _) rfl ?_
        exact ⟨⟨_, rfl⟩, .inr ⟨k + 1, unhide HJ3⟩⟩
    · gi_wp2_with fail
      go_end0
      exact ⟨⟨_, rfl⟩, .inl ⟨k, by unfold Ecn; rw [unhide hN]; have := unhide hk; omega, unhide HJ⟩⟩

set_option maxRecDepth 100000 in
set_option maxHeartbeats 1600000 in
theorem climb1_hands (n : Nat) (Bf Bu : Nat) (b : Int) (uv : Value) (up : List Int) : Hands Fence.wide n Try.prog 18 #[.pointer (some ⟨Bf, 0, none⟩), .pointer (some ⟨Bu, 0, none⟩)] (encN (dms up b)) (Acn (dms up b)) (Ecn (dms up b)) (Vc Bf Bu b uv up) := by
  intro lp J Jx W hV hB hBx hY h0
  have HY := hide hY
  have HV := hide hV
  clear hV hB hBx hY
  obtain ⟨c0, c1, r0⟩ := unhide HV 0 W h0
  obtain ⟨a, cap, rfl, hlc, hcm⟩ := r0.shape
  obtain ⟨N, hN⟩ : ∃ N, Hid (up.length = N) := ⟨_, rfl⟩
  obtain ⟨R, hR⟩ : ∃ R, Hid (dms up b = R) := ⟨_, rfl⟩
  have HR0 : Hid (R.drop 0 = dm up (N - 0) b) := by unfold Hid; rw [← unhide hR, dms, unhide hN]; rfl
  have hNm : N ≤ maxLen := by rw [← unhide hN]; omega
  unfold maxLen at hNm
  rw [unhide hN] at c1 HV
  rw [unhide hR] at HY ⊢
  have H0 := hide h0
  clear r0 h0 hlc hcm
  refine callsIn_of_wp Try.func18 rfl trivial ?_ rfl
  simp only [Try.ntmps18, List.size_toArray, List.length_cons, List.length_nil, Nat.reduceAdd, Nat.reduceSub, Array.replicate_succ, Array.replicate_zero, List.push_toArray, List.append_toArray, List.nil_append, List.cons_append]
  gi_wp2_with fail
  gi_loopw [4, 8] (fun t4 i wr => ∃ (k : Nat) (b' : Int), Hid (k ≤ N ∧ k ≤ R.length) ∧ t4 = .int .i64 b' ∧ i = .int .i64 k ∧ Hid (R.drop k = dm up (N - k) b') ∧ Hid (J k wr)) (fun _ i _ => N - (intOf i).toNat)
  case atStart => exact ⟨0, b, ⟨Nat.zero_le _, Nat.zero_le _⟩, rfl, rfl, HR0, H0⟩
  case round =>
    obtain ⟨k, b', hk, rfl, rfl, hD, HJ⟩ := hrel
    clear c0 c1 H0 HR0
    have i0 : (0 : Int) ≤ (k : Int) := by omega
    obtain ⟨c0, c1, r1⟩ := unhide HV k wr (unhide HJ)
    by_cases hlt : k < N
    · have i1 : (k : Int) < (N : Int) := by omega
      by_cases hin : 0 ≤ b' ∧ b' < (N : Int)
      · obtain ⟨m, rfl⟩ : ∃ m : Nat, b' = (m : Int) := ⟨b'.toNat, by omega⟩
        have hm : m < N := by omega
        obtain ⟨x, hx⟩ : ∃ x, up[m]? = some x := ⟨_, List.getElem?_eq_getElem (by rw [unhide hN]; exact hm)⟩
        have hD2 : R.drop k = (m : Int) :: dm up (N - (k + 1)) x := by rw [unhide hD, show N - k = (N - (k + 1)) + 1 from by omega, dm_in hx]
        have hkR : k < R.length := by
          have := congrArg List.length hD2
          simp only [List.length_drop, List.length_cons] at this
          omega
        have hRk : R[k]? = some (m : Int) := by
          have := congrArg (fun l => l[0]?) hD2
          simpa using this
        have HD3 : Hid (R.drop (k + 1) = dm up (N - (k + 1)) x) := by
          have := congrArg List.tail hD2
          rw [List.tail_drop] at this
          exact this
        obtain ⟨fn, tmps, assign, body, hy, hRR⟩ := unhide HY k wr (unhide HJ) hkR
        unfold encN at hy
        rw [List.getD_eq_getElem?_getD, hRk, Option.getD_some] at hy
        have HR := hide hRR
        have HX := hide hx
        have i2 : ¬ (m : Int) < 0 := by omega
        have i3 : ¬ (N : Int) ≤ (m : Int) := by omega
        have i4 : (0 : Int) ≤ (m : Int) := by omega
        have i5 : (m : Int) < (N : Int) := by omega
        clear r1 hx hRR hD2 hRk hin
        gi_wp2_with fail
        refine ⟨(fun q => by cases q), (unhide HR).mono ?_⟩
        rintro e W3 (⟨rfl, hJ3⟩ | ⟨rfl, hJx3⟩)
        · obtain ⟨d0, d1, r3⟩ := unhide HV (k + 1) W3 hJ3
          obtain ⟨bb, off, c', e, hb, q0⟩ := r3.at (unhide HX)
          rw [unhide hN] at e
          cases e
          have HJ3 := hide hJ3
          clear hJ3 HR hy r3 c0 c1
          gi_wp2_with fail
          go_roundw
          case rel => exact ⟨k + 1, x, ⟨hlt, hkR⟩, rfl, by go_num, HD3, HJ3⟩
          case measure => simp [intOf]; omega
        · have HJ3 := hide hJx3
          clear hJx3 HR hy
          gi_wp2_with fail
          refine bodyPost_ret (results_none rfl _ _ _) rfl ?_
          exact ⟨⟨_, rfl⟩, .inr ⟨k + 1, unhide HJ3⟩⟩
      · have hE : Hid (Ecn R k) := by
          have h1 := unhide hD
          rw [dm_out _ (by rw [unhide hN]; exact hin)] at h1
          have := congrArg List.length h1
          simp only [List.length_drop, List.length_nil] at this
          have := (unhide hk).2
          show k = R.length
          omega
        clear r1
        by_cases hneg : b' < 0
        · clear hin
          gi_wp2_with fail
          refine ⟨(fun _ h => by cases h), ?_⟩
          gi_wp2_with fail
          refine bodyPost_ret (results_none rfl _ _ _) rfl ?_
          exact ⟨⟨_, rfl⟩, .inl ⟨k, unhide hE, unhide HJ⟩⟩
        · have i3 : (N : Int) ≤ b' := by omega
          clear hin
          gi_wp2_with fail
          refine ⟨(fun _ h => by cases h), ?_⟩
          gi_wp2_with fail
          refine bodyPost_ret (results_none rfl _ _ _) rfl ?_
          exact ⟨⟨_, rfl⟩, .inl ⟨k, unhide hE, unhide HJ⟩⟩
    · have hE : Hid (Ecn R k) := by
        have h1 := unhide hD
        rw [show N - k = 0 from by omega, dm] at h1
        have := congrArg List.length h1
        simp only [List.length_drop, List.length_nil] at this
        have := (unhide hk).2
        show k = R.length
        omega
      clear r1
      gi_wp2_with fail
      go_end0
      exact ⟨⟨_, rfl⟩, .inl ⟨k, unhide hE, unhide HJ⟩⟩

set_option maxRecDepth 100000 in
set_option maxHeartbeats 800000 in
theorem climb_any (w : World) (a : Option Addr) (n c : Nat) (b : Int) : Calls Try.prog 16 #[.slice a n c, .int .i64 b] w fun e w' => e = .returned (.func (.func 18) #[] #[.pointer (some ⟨w.heap.size + 1, 0, none⟩), .pointer (some ⟨w.heap.size, 0, none⟩)]) ∧ w' = (w.alloc (.cells #[.slice a n c] 22)).alloc (.cells #[.int .i64 b] 3) := by
  go_enter Try.func16, Try.ntmps16
  go_wp2
  go_ret
  exact ⟨rfl, rfl⟩
end Go.Proofs.Ytfeombhileiamaa
