/-
  What All hands over.
-/
import Derived.Test.YthmcalapofjmfaaRng
import Derived.Test.YthmcalapofjmfaaOps
namespace Go.Proofs.Ythmcalapofjmfaa
open Go.RowKit Go.Shelf
set_option linter.unusedVariables false

/-- The box holds the index, and the index holds the row of this round. -/
def Vw (Bx p : Nat) (rw : Nat → List ByteArray) (k : Nat) (X : World) : Prop := X.cell? ⟨Bx, 0, none⟩ = some (.pointer (some ⟨p, 0, none⟩)) ∧ ∃ b v, Ix X p b v (rw k)
/-- A round comes. -/
def Ac (rw : Nat → List ByteArray) (k : Nat) : Prop := k < (rw 0).length ∧ k < (rw k).length
/-- No round comes any more. -/
def Ec (rw : Nat → List ByteArray) (k : Nat) : Prop := k ≤ (rw 0).length ∧ (k < (rw 0).length → (rw k).length ≤ k)
def encW (rw : Nat → List ByteArray) (k : Nat) : Array Value := #[.int .i64 (k : Int), .string (tx (rw k) k)]

set_option maxRecDepth 100000 in
set_option maxHeartbeats 1600000 in
theorem all1_hands (n : Nat) (Bx p : Nat) (rw : Nat → List ByteArray) (hm : ∀ k, (rw k).length ≤ 140737488355328) : Hands Fence.wide n Try.prog 37 #[.pointer (some ⟨Bx, 0, none⟩)] (encW rw) (Ac rw) (Ec rw) (Vw Bx p rw) := by
  intro l J Jx W hV hB hBx hY h0
  have HY := hide hY
  have HV := hide hV
  have HM := hide hm
  clear hV hB hBx hY hm
  obtain ⟨c0, b0, v0, i0⟩ := unhide HV 0 W h0
  have HL := hide (len_any i0)
  have hm0 := unhide HM 0
  obtain ⟨N, hN⟩ : ∃ N, Hid ((rw 0).length = N) := ⟨_, rfl⟩
  rw [unhide hN] at HL hm0
  have H0 := hide h0
  clear i0 h0
  refine callsIn_of_wp Try.func37 rfl trivial ?_ rfl
  simp only [Try.ntmps37, List.size_toArray, List.length_cons, List.length_nil, Nat.reduceAdd, Nat.reduceSub, Array.replicate_succ, Array.replicate_zero, List.push_toArray, List.append_toArray, List.nil_append, List.cons_append]
  gi_wp2_with fail
  refine ⟨trivial, (fun q => by cases q), (callsIn_wide.2 (unhide HL)).mono ?_⟩
  rintro e w1 ⟨rfl, ew⟩
  rw [ew]
  clear ew w1 HL
  gi_wp2_with fail
  gi_loopw [8] (fun i wr => ∃ k : Nat, Hid (k ≤ N) ∧ i = .int .i64 k ∧ Hid (J k wr)) (fun i _ => N - (intOf i).toNat)
  case atStart => exact ⟨0, Nat.zero_le _, rfl, H0⟩
  case round =>
    obtain ⟨k, hk, rfl, HJ⟩ := hrel
    clear c0 H0
    have i0 : (0 : Int) ≤ (k : Int) := by omega
    by_cases hlt : k < N
    · have i1 : (k : Int) < (N : Int) := by omega
      obtain ⟨c1, b1, v1, ix⟩ := unhide HV k wr (unhide HJ)
      by_cases hin : k < (rw k).length
      · have HA := hide (at_in ix k hin (unhide HM k))
        obtain ⟨fn, tmps, assign, body, hy, hR⟩ := unhide HY k wr (unhide HJ) ⟨by rw [unhide hN]; exact hlt, hin⟩
        unfold encW at hy
        obtain ⟨t, et⟩ : ∃ t, tx (rw k) k = t := ⟨_, rfl⟩
        rw [et] at hy HA
        have HR := hide hR
        clear ix et hR hin
        gi_wp2_with fail
        refine ⟨trivial, (fun q => by cases q), (callsIn_wide.2 (unhide HA)).mono ?_⟩
        rintro e w1 ⟨rfl, ew⟩
        rw [ew]
        clear ew w1 HA
        gi_wp2_with fail
        refine ⟨(fun q => by cases q), (unhide HR).mono ?_⟩
        rintro e W3 (⟨rfl, hJ3⟩ | ⟨rfl, hJx3⟩)
        · have HJ3 := hide hJ3
          clear hJ3 HR hy
          gi_wp2_with fail
          go_roundw
          case rel => exact ⟨k + 1, hlt, by go_num, HJ3⟩
          case measure => simp [intOf]; omega
        · have HJ3 := hide hJx3
          clear hJx3 HR hy
          gi_wp2_with fail
          refine bodyPost_ret (results_none rfl _ _ _) rfl ?_
          exact ⟨⟨_, rfl⟩, .inr ⟨k + 1, unhide HJ3⟩⟩
      · have HA := hide (at_out ix (k : Int) (.inr (by omega)))
        clear ix
        gi_wp2_with fail
        refine ⟨trivial, (fun q => by cases q), (callsIn_wide.2 (unhide HA)).mono ?_⟩
        rintro e w1 ⟨rfl, ew⟩
        rw [ew]
        clear ew w1 HA
        gi_wp2_with fail
        refine ⟨(fun _ h => by cases h), ?_⟩
        gi_wp2_with fail
        refine bodyPost_ret (results_none rfl _ _ _) rfl ?_
        exact ⟨⟨_, rfl⟩, .inl ⟨k, ⟨by rw [unhide hN]; exact unhide hk, fun _ => by omega⟩, unhide HJ⟩⟩
    · gi_wp2_with fail
      go_end0
      exact ⟨⟨_, rfl⟩, .inl ⟨k, ⟨by rw [unhide hN]; exact unhide hk, fun q => by rw [unhide hN] at q; omega⟩, unhide HJ⟩⟩
end Go.Proofs.Ythmcalapofjmfaa
