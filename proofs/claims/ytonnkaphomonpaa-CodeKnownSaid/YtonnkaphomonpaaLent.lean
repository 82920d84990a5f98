/-
  Bytes that are lent, with marks behind them; and the document's reader, opened.
-/
import Derived.Test.YtonnkaphomonpaaCopy
namespace Go.Proofs.Ytonnkaphomonpaa
open Go.RowKit

set_option maxHeartbeats 400000 in
set_option maxRecDepth 100000 in
theorem refRead_any (k0 : Nat) (v : Value) (B : List Int) (w : World) (hR : Rd w v B) (hN : B.length ≤ 140737488355328) (hk0 : k0 < w.heap.size) :
    Calls Try.prog 62 #[v] w fun e w' => ∃ q qb v2, e = .returned (.pointer (some ⟨q, 0, none⟩)) ∧ w.heap.size ≤ q ∧ (qb = k0 ∨ w.heap.size ≤ qb) ∧ qb < w'.heap.size ∧ RefR w' q qb v2 B 0 0 ∧ Below w.heap.size w w' := by
  have hC := hide (copyBytes_any v B w hR hN)
  clear hR
  go_enter Try.func62, Try.ntmps62
  go_wp2_with fail
  refine (unhide hC).mono ?_
  rintro e w1 ⟨v2, rfl, hG⟩
  have HG := hide hG
  have hlt := hG.1.lt
  obtain ⟨a2, l2, c2, hv2⟩ := own_shape hG.1
  subst hv2
  clear hG
  go_wp2
  go_ret
  generalize hv2 : Value.slice a2 l2 c2 = v2 at *
  have hz : w.heap.size ≤ w1.heap.size := (unhide HG).2.size
  have hRd := Rd.of_own (unhide HG).1
  have hkeep : Rd (w1.alloc (.cells #[v2, .int .i64 0, .int .i64 0] 108)) v2 B := hRd.below ((Below.refl _ _).alloc (Nat.le_refl _) _)
  have hBel := (unhide HG).2.alloc hz (.cells #[v2, .int .i64 0, .int .i64 0] 108)
  rcases hb : v2.ownBlock with _ | g
  · refine ⟨w1.heap.size, k0, v2, rfl, hz, .inl rfl, by simp; omega, ⟨by simp, by simp, by simp, by simp, by simp, hkeep, fun b off len cap e => ?_, by omega, Nat.zero_le _⟩, hBel⟩
    rw [e] at hb; simp [Value.ownBlock] at hb
  · have := hlt g hb
    refine ⟨w1.heap.size, g, v2, rfl, hz, .inr this.1, by simp; omega, ⟨by simp, by simp, by simp, by simp, by simp, hkeep, fun b off len cap e => ?_, by omega, Nat.zero_le _⟩, hBel⟩
    rw [e] at hb; simpa [Value.ownBlock] using hb

/-- The marks behind what is lent. -/
def marks (n : Nat) : List Int := (List.range n).map fun (i : Nat) => 201 + (i : Int) % 40
theorem marks_succ (n : Nat) : marks (n + 1) = marks n ++ [201 + (n : Int) % 40] := by simp [marks, List.range_succ]
theorem marks_length (n : Nat) : (marks n).length = n := by simp [marks]
theorem marks_bok (n : Nat) : BOk (marks n) := by
  intro b hb
  simp only [marks, List.mem_map] at hb
  obtain ⟨i, _, rfl⟩ := hb
  omega
theorem marks_getD (n i : Nat) (h : i < n) : (marks n).getD i 0 = 201 + (i : Int) % 40 := by simp [marks, List.getD, h]

end Go.Proofs.Ytonnkaphomonpaa
