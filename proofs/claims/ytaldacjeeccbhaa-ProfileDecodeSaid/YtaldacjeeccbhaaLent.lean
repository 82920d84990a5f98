/-
  Bytes that are lent, with marks behind them; and the document's reader, opened.
-/
import Derived.Test.YtaldacjeeccbhaaRef4
namespace Go.Proofs.Ytaldacjeeccbhaa
open Go.RowKit

set_option maxHeartbeats 400000 in
set_option maxRecDepth 100000 in
theorem refRead_any (k0 : Nat) (v : Value) (B : List Int) (w : World) (hR : Rd w v B) (hN : B.length ≤ 140737488355328) (hk0 : k0 < w.heap.size) :
    Calls Try.prog 44 #[v] w fun e w' => ∃ q qb v2, e = .returned (.pointer (some ⟨q, 0, none⟩)) ∧ w.heap.size ≤ q ∧ (qb = k0 ∨ w.heap.size ≤ qb) ∧ qb < w'.heap.size ∧ RefR w' q qb v2 B 0 0 ∧ Below w.heap.size w w' := by
  have hC := hide (copyBytes_any v B w hR hN)
  clear hR
  go_enter Try.func44, Try.ntmps44
  go_wp2_with fail
  refine (unhide hC).mono ?_
  rintro e w1 ⟨v2, rfl, hG⟩
  have HG := hide hG
  have hlt := hG.1.lt
  obtain ⟨a2, l2, c2, hv2⟩ := own_shape hG.1
  subst hv2
  clear hG
  go_wp2
  go_ret
  generalize hv2 : Value.slice a2 l2 c2 = v2 at *
  have hz : w.heap.size ≤ w1.heap.size := (unhide HG).2.size
  have hRd := Rd.of_own (unhide HG).1
  have hkeep : Rd (w1.alloc (.cells #[v2, .int .i64 0, .int .i64 0] 79)) v2 B := hRd.below ((Below.refl _ _).alloc (Nat.le_refl _) _)
  have hBel := (unhide HG).2.alloc hz (.cells #[v2, .int .i64 0, .int .i64 0] 79)
  rcases hb : v2.ownBlock with _ | g
  · refine ⟨w1.heap.size, k0, v2, rfl, hz, .inl rfl, by simp; omega, ⟨by simp, by simp, by simp, by simp, by simp, hkeep, fun b off len cap e => ?_, by omega, Nat.zero_le _⟩, hBel⟩
    rw [e] at hb; simp [Value.ownBlock] at hb
  · have := hlt g hb
    refine ⟨w1.heap.size, g, v2, rfl, hz, .inr this.1, by simp; omega, ⟨by simp, by simp, by simp, by simp, by simp, hkeep, fun b off len cap e => ?_, by omega, Nat.zero_le _⟩, hBel⟩
    rw [e] at hb; simpa [Value.ownBlock] using hb

/-- The marks behind what is lent. -/
def marks (n : Nat) : List Int := (List.range n).map fun (i : Nat) => 201 + (i : Int) % 40
theorem marks_succ (n : Nat) : marks (n + 1) = marks n ++ [201 + (n : Int) % 40] := by simp [marks, List.range_succ]
theorem marks_length (n : Nat) : (marks n).length = n := by simp [marks]
theorem marks_bok (n : Nat) : BOk (marks n) := by
  intro b hb
  simp only [marks, List.mem_map] at hb
  obtain ⟨i, _, rfl⟩ := hb
  omega
theorem marks_getD (n i : Nat) (h : i < n) : (marks n).getD i 0 = 201 + (i : Int) % 40 := by simp [marks, List.getD, h]

set_option maxHeartbeats 1600000 in
set_option maxRecDepth 100000 in
theorem lent_any (v : Value) (B : List Int) (w : World) (hR : Rd w v B) (hN : B.length + 64 ≤ 140737488355328) :
    Calls Try.prog 19 #[v] w fun e w' => ∃ v', e = .returned v' ∧ Grows w v' (B ++ marks 64) w' := by
  obtain ⟨i0, hi0, hz0, hz1, hz2⟩ := info_parts Try.info5
  obtain ⟨a, cap, rfl⟩ := hR.shapeR
  have HR := hide hR
  obtain ⟨N, hNN⟩ : ∃ N, Hid (B.length = N) := ⟨_, rfl⟩
  rw [unhide hNN] at hN HR ⊢
  clear hR
  go_enter Try.func19, Try.ntmps19
  go_wp2
  go_loopg [3, 4] N (fun k l s wr => ∃ (j : Nat), Hid (j + k = N) ∧ s = .int .i64 (j : Int) ∧ Hid (Grows w l (B.take j) wr))
  case atStart => exact ⟨0, by unfold Hid; omega, rfl, by exact ⟨World.ownsRow_nil _ _ _ _, Below.refl _ _⟩⟩
  case round =>
    obtain ⟨j, hj, rfl, hG⟩ := hrel
    by_cases hlt : j < N
    · obtain ⟨cb, co, rfl, hcb, hc⟩ := (unhide HR).at j (by rw [unhide hNN]; exact hlt)
      have hcell : wr.cell? ⟨cb, co + j, none⟩ = some (.int .u8 (B.getD j 0)) := ((unhide hG).2.cell (p := ⟨cb, co + j, none⟩) hcb).trans hc
      have htk := hide (take_getD0 B j (by rw [unhide hNN]; exact hlt))
      have hlen : (B.take j).length = j := by rw [List.length_take, unhide hNN]; omega
      have hown := (unhide hG).1
      rw [hlen] at hown
      have HO := hide hown
      have hlen := hide hlen
      generalize B.getD j 0 = b at *
      have i1 : (0 : Int) ≤ (j : Int) := by omega
      have i2 : (j : Int) < (N : Int) := by omega
      clear hc hown
      go_wp2_with (first | (at_builtin; refine wpList_append_own_at _ rfl _ _ 33 rfl w.heap.size 5 i0 (.int .u8 0) 1 1 Try.underlying33 hi0 hz0 hz1 hz2 rfl (by decide) _ _ _ rfl ((unhide HO).alloc _) ⟨wr.heap.size, 0, none⟩ 1 1 [.int .u8 b] rfl rfl (cell_one_new _ _ _) (by simp [Value.oneCell']) (by unfold maxLen; omega) (by omega) (by have := (unhide hG).2.size; simp; omega) ?_))
      intro v' w1 hown' hgrow hnil hat
      have HN : Hid (Grows w v' (B.take (j + 1)) w1) := hide (by
        rw [unhide htk]
        exact (unhide hG).step hown' (by rw [unhide hlen]) (by rw [List.map_take]) hgrow)
      clear hown' hgrow hnil hat
      go_wp2
      go_roundg (gk - 1)
      case measure => have := unhide hj; omega
      case rel => exact ⟨j + 1, by have := unhide hj; unfold Hid; omega, by go_num, HN⟩
    · have hjN : j = N := by have := unhide hj; omega
      subst hjN
      have HG : Hid (Grows w u3 (B ++ marks 0) wr) := by
        have h := unhide hG
        rw [List.take_of_length_le (by rw [unhide hNN]; exact Nat.le_refl _)] at h
        rw [show marks 0 = [] from rfl, List.append_nil]
        exact h
      clear hG
      go_wp2
      go_loopg [3, 5] 64 (fun k l s wr => ∃ (i : Nat), Hid (i + k = 64) ∧ i ≤ 64 ∧ s = .int .i64 (i : Int) ∧ Hid (Grows w l (B ++ marks i) wr))
      case atStart => exact ⟨0, by unfold Hid; omega, by omega, rfl, HG⟩
      case round =>
        obtain ⟨i, hi, hi64, rfl, hG⟩ := hrel
        by_cases hlt : i < 64
        · have hlen : (B ++ marks i).length = j + i := by rw [List.length_append, marks_length, unhide hNN]
          have hown := (unhide hG).1
          rw [hlen] at hown
          have HO := hide hown
          have hlen := hide hlen
          have hmk := hide (marks_succ i)
          have i2 : (i : Int) < 64 := by omega
          have hb0 : 0 ≤ (i : Int) % 40 := by omega
          have hb1 : (i : Int) % 40 < 40 := by omega
          clear hown
          go_wp2_with (first | (at_builtin; refine wpList_append_own_at _ rfl _ _ 33 rfl w.heap.size 5 i0 (.int .u8 0) 1 1 Try.underlying33 hi0 hz0 hz1 hz2 rfl (by decide) _ _ _ rfl ((unhide HO).alloc _) ⟨wr.heap.size, 0, none⟩ 1 1 [.int .u8 (201 + (i : Int) % 40)] rfl rfl (cell_one_new _ _ _) (by simp [Value.oneCell']) (by unfold maxLen; omega) (by omega) (by have := (unhide hG).2.size; simp; omega) ?_))
          intro v' w1 hown' hgrow hnil hat
          have HN : Hid (Grows w v' (B ++ marks (i + 1)) w1) := hide (by
            rw [unhide hmk, ← List.append_assoc]
            exact (unhide hG).step hown' (by rw [unhide hlen]) (by first | rfl | simp) hgrow)
          clear hown' hgrow hnil hat
          go_wp2
          go_roundg (gk - 1)
          case measure => have := unhide hi; omega
          case rel => exact ⟨i + 1, by have := unhide hi; unfold Hid; omega, by omega, by go_num, HN⟩
        · have hi64' : i = 64 := by omega
          subst hi64'
          go_wp2
          go_ret
          exact ⟨_, rfl, unhide hG⟩
end Go.Proofs.Ytaldacjeeccbhaa
