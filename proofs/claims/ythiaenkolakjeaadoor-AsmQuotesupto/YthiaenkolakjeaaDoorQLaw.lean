/-
  AsmQuoted holds.
-/
import Derived.Test.YthiaenkolakjeaaDoorQUn
namespace Go.Proofs.YthiaenkolakjeaaDoor
open Go.RowKit Go.Shelf
set_option linter.unusedVariables false
set_option linter.unusedSimpArgs false
theorem hx_in {d : Nat} (h : d < 16) : 32 ≤ (hx d).toNat ∧ (hx d).toNat ≤ 126 := by
  rw [hx_nat h]; split <;> omega
theorem qb_in (c : UInt8) : ∀ x ∈ qb c, 32 ≤ x.toNat ∧ x.toNat ≤ 126 := by
  intro x hx'
  have hc := c.toNat_lt
  unfold qb at hx'
  split at hx'
  · rename_i h
    simp at hx'
    rcases hx' with rfl | rfl
    · decide
    · omega
  · split at hx'
    · simp at hx'
      rcases hx' with rfl | rfl <;> decide
    · split at hx'
      · simp at hx'; subst hx'; assumption
      · simp at hx'
        rcases hx' with rfl | rfl | rfl | rfl
        · decide
        · decide
        · exact hx_in (by omega)
        · exact hx_in (by omega)
theorem quo_in (l : List UInt8) : ∀ x ∈ quo l, 32 ≤ x.toNat ∧ x.toNat ≤ 126 := by
  intro x hx'
  unfold quo at hx'
  simp at hx'
  rcases hx' with rfl | ⟨c, _, h⟩ | rfl
  · decide
  · exact qb_in c x h
  · decide
theorem ba_mk (s : ByteArray) : (⟨s.data.toList.toArray⟩ : ByteArray) = s := by cases s; rfl
set_option maxHeartbeats 1000000 in
set_option maxRecDepth 100000 in
theorem quotedLaw (s : ByteArray) (w : World) (hs : s.size ≤ 1048576) :
    Calls Tryd.prog 4 #[.string s] w fun e w' => e = .returned (.bool true) ∧ Below w.heap.size w w' := by
  have HQ := hide (quote_any s w (by omega))
  obtain ⟨q, hq⟩ : ∃ q : ByteArray, Hid (q = ⟨(quo s.data.toList).toArray⟩) := ⟨_, rfl⟩
  rw [← unhide hq] at HQ
  have hql : Hid (q.data.toList = quo s.data.toList) := by unfold Hid; rw [unhide hq]
  have HU := hide (fun w => unq_any q s.data.toList w (unhide hql) (by rw [← size_list]; omega))
  rw [ba_mk] at HU
  have hqn : Hid (q.size ≤ 4 * 1048576 + 2) := by
    have := quo_le s.data.toList
    rw [← size_list] at this
    unfold Hid; rw [size_list, unhide hql]; omega
  obtain ⟨N, hN⟩ : ∃ N, Hid (q.size = N) := ⟨_, rfl⟩
  have hNm : N ≤ 4194306 := by have := unhide hqn; rw [unhide hN] at this; omega
  go_enter Tryd.func4, Tryd.ntmps4
  go_wp2_with fail
  refine (unhide HQ).mono ?_
  rintro e W2 ⟨rfl, hb2⟩
  have HB2 := hide hb2
  clear hb2 HQ
  go_wp2_with fail
  go_loopg [4] N (fun gg t4 wi => ∃ (i : Nat), Hid (i + gg = N) ∧ t4 = .int .i64 (i : Int) ∧ wi = W2)
  case atStart => exact ⟨0, by unfold Hid; omega, rfl, rfl⟩
  case round =>
    obtain ⟨i, hi, rfl, hX⟩ := hrel
    obtain rfl := hX.symm
    clear hX
    have i0 : (0 : Int) ≤ (i : Int) := by omega
    by_cases hlt : i < N
    · have i1 : (i : Int) < (q.size : Int) := by rw [unhide hN]; omega
      have i3 : i < q.size := by rw [unhide hN]; exact hlt
      obtain ⟨m, hm⟩ : ∃ m, q[i].toNat = m := ⟨_, rfl⟩
      have hin : 32 ≤ m ∧ m ≤ 126 := by
        rw [← hm]
        exact quo_in _ _ (by rw [← unhide hql]; exact List.mem_of_getElem? (ba_at q i3))
      have m1 : ¬ (m : Int) < 32 := by omega
      have m2 : ¬ 126 < (m : Int) := by omega
      go_wp2_with fail
      go_roundg (gk - 1)
      case measure => have := unhide hi; omega
      case rel => exact ⟨i + 1, by have := unhide hi; unfold Hid; omega, by go_num, rfl⟩
    · have i1 : ¬ (i : Int) < (q.size : Int) := by rw [unhide hN]; omega
      go_wp2_with fail
      refine (unhide HU _).mono ?_
      rintro e W3 ⟨rfl, hb3⟩
      have HB3 : Hid (Below w.heap.size w W3) := (unhide HB2).trans (hb3.mono (unhide HB2).size)
      clear hb3
      go_wp2_with fail
      go_ret
      exact ⟨rfl, unhide HB3⟩
end Go.Proofs.YthiaenkolakjeaaDoor
