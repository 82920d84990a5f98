/-
  Cut (kind I).
-/
import Derived.Test.YthmcalapofjmfabMI
namespace Go.Proofs.Ythmcalapofjmfab
open Go.RowKit Go.Maps
set_option linter.unusedVariables false

set_option maxRecDepth 100000 in
set_option maxHeartbeats 1600000 in
theorem cutI_mid {w : World} {p b : Nat} {v : Value} {ks : List Nat} (h : IxI w p b v ks) (k : Nat) (hk : k < ks.length) : Calls Try.prog 13 #[.pointer (some ⟨p, 0, none⟩), .int .i64 (k : Int)] w fun e w' =>
    e = .returned (.tuple #[]) ∧ ∃ v', IxI w' p b v' (ks.take k) ∧ IStep p b w v w' v' := by
  have hsm := h.small
  obtain ⟨g, cap, ev, _⟩ := IxI.cell (p := p) (b := b) h.own hk 0 (by omega)
  have hcap := h.own
  rw [ev] at h hcap ⊢
  have hlc : ks.length ≤ cap := by
    rcases hcap.2 with ⟨e, _⟩ | ⟨g', cap', cur, e, _, _, hn, _⟩
    · cases e
    · cases e; exact hn
  have HI := hide h
  have HS := hide (CutAtI.start h k)
  have hc0 := h.c0
  have hp := h.lt
  have HD := hide (fun (wr : World) (c : CutAtI w p b (.slice (some ⟨g, 0, none⟩) ks.length cap) ks k (ks.length - k) wr) ty cp => CutAtI.done h hk c ty cp)
  obtain ⟨n, hn⟩ : ∃ n, Hid (ks.length = n) := ⟨_, rfl⟩
  rw [unhide hn] at hc0 hk hlc HD HI HS hsm ⊢
  simp only [Nat.mul_one] at HD
  clear h ev hcap
  go_enter Try.func13, Try.ntmps13
  go_wp2
  obtain ⟨M, hMd⟩ : ∃ M, n - k = M := ⟨_, rfl⟩
  have hMn : M ≤ n := by omega
  have HMd : Hid (k + M = n) := by unfold Hid; omega
  rw [hMd] at HD ⊢
  clear hMd
  go_loopg [21] M (fun g2 t21 wr => ∃ j : Nat, Hid (j + g2 = M) ∧ t21 = .int .i64 (j : Int) ∧ Hid (CutAtI w p b (.slice (some ⟨g, 0, none⟩) n cap) ks k j wr))
  case atStart => exact ⟨0, by unfold Hid; omega, rfl, HS⟩
  case round =>
    obtain ⟨j, hj, rfl, hC⟩ := hrel
    have hkj : Hid (j < M → k + j < ks.length) := fun hlt => by rw [unhide hn]; have := unhide HMd; omega
    obtain ⟨k0, k1, kf, ko⟩ := (unhide hC).cells (unhide HI)
    have hp2 : p < wr.heap.size := World.block_lt_of_cell? _ _ k0
    by_cases hlt : j < M
    · obtain ⟨z, ef, ec⟩ := valI_form (tx ks (k + j))
      obtain ⟨g', cap', eg, cj⟩ := IxI.cell (p := p) (b := b) ko (unhide hkj hlt) 0 (by omega)
      simp only [Value.slice.injEq, Option.some.injEq, Addr.mk.injEq] at eg
      obtain ⟨⟨rfl, _⟩, _, _⟩ := eg
      rw [ec, Nat.mul_one, Nat.add_zero] at cj
      simp only [List.getElem?_cons_zero] at cj
      obtain ⟨w2, hrun, hC2, _⟩ := (unhide hC).step (unhide HI) (unhide hkj hlt) 0
      rw [ef] at hrun
      have HC2 := hide hC2
      have i0 : (0 : Int) ≤ (j : Int) := by omega
      have i1 : (j : Int) < (M : Int) := by omega
      clear ko hC2 ef ec
      go_wp2
      go_roundg (gk - 1)
      case measure => have := unhide hj; omega
      case rel => exact ⟨j + 1, by have := unhide hj; unfold Hid; omega, by go_num, HC2⟩
    · have hjM : j = M := by have := unhide hj; omega
      obtain ⟨w2, hrun, q0, q1, q2, hI2, hS2⟩ := unhide HD wr (by have := unhide hC; rw [hjM] at this; exact this) 0 (cap - k)
      rw [show M = n - k from by have := unhide HMd; omega] at hrun
      have HI2 := hide hI2
      have HS2 := hide hS2
      clear hI2 hS2 hjM ko
      go_wp2
      go_end0
      exact ⟨rfl, _, unhide HI2, unhide HS2⟩

set_option maxRecDepth 100000 in
set_option maxHeartbeats 1600000 in
theorem cutI_more {w : World} {p b : Nat} {v : Value} {ks : List Nat} (h : IxI w p b v ks) (z : Int) (hz : (ks.length : Int) < z) : Calls Try.prog 13 #[.pointer (some ⟨p, 0, none⟩), .int .i64 z] w fun e w' =>
    e = .returned (.tuple #[]) ∧ ∃ v', IxI w' p b v' ks ∧ IStep p b w v w' v' := by
  have HS := hide h.same
  have hp := h.lt
  have hf := h.f0
  have hc0 := h.c0
  have hsm := h.small
  have hcl : ∀ a c W, (Builtin.clear_ #[61] 0 #[.slice a 0 c]).run Try.prog W = .ok (.tuple #[]) W := clear_noneI
  rcases h.own.2 with ⟨e, h0⟩ | ⟨g, cap, cur, e, _, _, hlc, _⟩
  · rw [e] at hc0 HS ⊢
    rw [h0] at hz 
    clear h e h0 hsm
    go_enter Try.func13, Try.ntmps13
    go_wp2
    go_loopg [21] 0 (fun g2 t21 wr => t21 = .int .i64 0 ∧ wr = w)
    case atStart => exact ⟨rfl, rfl⟩
    case round =>
      obtain ⟨rfl, rfl⟩ := hrel
      go_wp2
      go_end0
      exact ⟨rfl, _, (unhide HS).1, (unhide HS).2⟩
  · rw [e] at hc0 HS ⊢
    obtain ⟨n, hn⟩ : ∃ n, Hid (ks.length = n) := ⟨_, rfl⟩
    rw [unhide hn] at hc0 hlc HS hsm hz ⊢
    clear h e
    by_cases hcn : n = cap
    · subst hcn
      go_enter Try.func13, Try.ntmps13
      go_wp2
      go_loopg [21] 0 (fun g2 t21 wr => t21 = .int .i64 0 ∧ wr = w)
      case atStart => exact ⟨rfl, rfl⟩
      case round =>
        obtain ⟨rfl, rfl⟩ := hrel
        go_wp2
        go_end0
        exact ⟨rfl, _, (unhide HS).1, (unhide HS).2⟩
    · have hcn2 : n < cap := by omega
      clear hcn
      go_enter Try.func13, Try.ntmps13
      go_wp2
      go_loopg [21] 0 (fun g2 t21 wr => t21 = .int .i64 0 ∧ wr = w)
      case atStart => exact ⟨rfl, rfl⟩
      case round =>
        obtain ⟨rfl, rfl⟩ := hrel
        go_wp2
        go_end0
        exact ⟨rfl, _, (unhide HS).1, (unhide HS).2⟩

set_option maxRecDepth 100000 in
set_option maxHeartbeats 1600000 in
theorem cutI_even {w : World} {p b : Nat} {v : Value} {ks : List Nat} (h : IxI w p b v ks)  : Calls Try.prog 13 #[.pointer (some ⟨p, 0, none⟩), .int .i64 (ks.length : Int)] w fun e w' =>
    e = .returned (.tuple #[]) ∧ ∃ v', IxI w' p b v' ks ∧ IStep p b w v w' v' := by
  have HS := hide h.same
  have hp := h.lt
  have hf := h.f0
  have hc0 := h.c0
  have hsm := h.small
  have hcl : ∀ a c W, (Builtin.clear_ #[61] 0 #[.slice a 0 c]).run Try.prog W = .ok (.tuple #[]) W := clear_noneI
  rcases h.own.2 with ⟨e, h0⟩ | ⟨g, cap, cur, e, _, _, hlc, _⟩
  · rw [e] at hc0 HS ⊢
    rw [h0] at ⊢ 
    clear h e h0 hsm
    go_enter Try.func13, Try.ntmps13
    go_wp2
    go_loopg [21] 0 (fun g2 t21 wr => t21 = .int .i64 0 ∧ wr = w)
    case atStart => exact ⟨rfl, rfl⟩
    case round =>
      obtain ⟨rfl, rfl⟩ := hrel
      go_wp2
      go_end0
      exact ⟨rfl, _, (unhide HS).1, (unhide HS).2⟩
  · rw [e] at hc0 HS ⊢
    obtain ⟨n, hn⟩ : ∃ n, Hid (ks.length = n) := ⟨_, rfl⟩
    rw [unhide hn] at hc0 hlc HS hsm ⊢
    clear h e
    by_cases hcn : n = cap
    · subst hcn
      go_enter Try.func13, Try.ntmps13
      go_wp2
      go_loopg [21] 0 (fun g2 t21 wr => t21 = .int .i64 0 ∧ wr = w)
      case atStart => exact ⟨rfl, rfl⟩
      case round =>
        obtain ⟨rfl, rfl⟩ := hrel
        go_wp2
        go_end0
        exact ⟨rfl, _, (unhide HS).1, (unhide HS).2⟩
    · have hcn2 : n < cap := by omega
      clear hcn
      go_enter Try.func13, Try.ntmps13
      go_wp2
      go_loopg [21] 0 (fun g2 t21 wr => t21 = .int .i64 0 ∧ wr = w)
      case atStart => exact ⟨rfl, rfl⟩
      case round =>
        obtain ⟨rfl, rfl⟩ := hrel
        go_wp2
        go_end0
        exact ⟨rfl, _, (unhide HS).1, (unhide HS).2⟩

/-- Cut, from a number on. -/
theorem cutI_any {w : World} {p b : Nat} {v : Value} {ks : List Nat} (h : IxI w p b v ks) (k : Nat) : Calls Try.prog 13 #[.pointer (some ⟨p, 0, none⟩), .int .i64 (k : Int)] w fun e w' =>
    e = .returned (.tuple #[]) ∧ ∃ v', IxI w' p b v' (ks.take k) ∧ IStep p b w v w' v' := by
  by_cases h1 : k < ks.length
  · exact cutI_mid h k h1
  · rw [List.take_of_length_le (by omega)]
    by_cases h2 : k = ks.length
    · rw [h2]; exact cutI_even h
    · exact cutI_more h (k : Int) (by omega)
end Go.Proofs.Ythmcalapofjmfab
