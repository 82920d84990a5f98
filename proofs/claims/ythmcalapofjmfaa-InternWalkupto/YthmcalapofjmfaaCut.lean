/-
  Cut.
-/
import Derived.Test.YthmcalapofjmfaaCutMath
namespace Go.Proofs.Ythmcalapofjmfaa
open Go.RowKit Go.Maps
set_option linter.unusedVariables false

set_option maxRecDepth 100000 in
set_option maxHeartbeats 1600000 in
theorem cut_mid {w : World} {p b : Nat} {v : Value} {rs : List ByteArray} (h : Ix w p b v rs) (k : Nat) (hk : k < rs.length) (hM : rs.length ≤ 140737488355328) : Calls Try.prog 32 #[.pointer (some ⟨p, 0, none⟩), .int .i64 (k : Int)] w fun e w' =>
    e = .returned (.tuple #[]) ∧ ∃ v', Ix w' p b v' (rs.take k) ∧ IStep p b w v w' v' := by
  obtain ⟨g, cap, ev, _⟩ := h.at hk
  have hcap := h.own
  rw [ev] at h hcap ⊢
  have hlc : rs.length ≤ cap := by
    rcases hcap.2 with ⟨e, _⟩ | ⟨g', cap', cur, e, _, _, hn, _⟩
    · cases e
    · cases e; exact hn
  have HI := hide h
  have HS := hide (CutAt.start h k)
  have hc0 := h.c0
  have hp := h.lt
  have HD := hide (fun (wr : World) (c : CutAt w p b (.slice (some ⟨g, 0, none⟩) rs.length cap) rs k (rs.length - k) wr) ty cp => CutAt.done h hk c ty cp)
  obtain ⟨n, hn⟩ : ∃ n, Hid (rs.length = n) := ⟨_, rfl⟩
  have hRt := hide (Rt.own h.own)
  rw [unhide hn] at hc0 hk hM hlc HD hRt HI HS ⊢
  clear h ev hcap
  go_enter Try.func32, Try.ntmps32
  go_wp2
  obtain ⟨M, hMd⟩ : ∃ M, n - k = M := ⟨_, rfl⟩
  have hMn : M ≤ n := by omega
  have HMd : Hid (k + M = n) := by unfold Hid; omega
  rw [hMd] at HD ⊢
  clear hMd
  go_loopg [21] M (fun g2 t21 wr => ∃ j : Nat, Hid (j + g2 = M) ∧ t21 = .int .i64 (j : Int) ∧ Hid (CutAt w p b (.slice (some ⟨g, 0, none⟩) n cap) rs k j wr))
  case atStart => exact ⟨0, by unfold Hid; omega, rfl, HS⟩
  case round =>
    obtain ⟨j, hj, rfl, hC⟩ := hrel
    have hkj : Hid (j < M → k + j < rs.length) := fun hlt => by rw [unhide hn]; have := unhide HMd; omega
    obtain ⟨k0, k1, kf, ko⟩ := (unhide hC).cells (unhide HI)
    have hp2 : p < wr.heap.size := World.block_lt_of_cell? _ _ k0
    by_cases hlt : j < M
    · have cj : wr.cell? ⟨g, k + j, none⟩ = some (.string (tx rs (k + j))) := (Rt.own ko).cell0 (unhide hkj hlt)
      obtain ⟨w2, hrun, hC2⟩ := (unhide hC).step (unhide HI) (unhide hkj hlt) 0
      have HC2 := hide hC2
      obtain ⟨s, es⟩ : ∃ s, s = tx rs (k + j) := ⟨_, rfl⟩
      rw [← es] at cj hrun
      clear es
      have i0 : (0 : Int) ≤ (j : Int) := by omega
      have i1 : (j : Int) < (M : Int) := by omega
      clear ko hC2
      go_wp2
      go_roundg (gk - 1)
      case measure => have := unhide hj; omega
      case rel => exact ⟨j + 1, by have := unhide hj; unfold Hid; omega, by go_num, HC2⟩
    · have hjM : j = M := by have := unhide hj; omega
      obtain ⟨w2, hrun, q0, q1, q2, hI2, hS2⟩ := unhide HD wr (by have := unhide hC; rw [hjM] at this; exact this) 0 (cap - k)
      rw [show M = n - k from by have := unhide HMd; omega] at hrun
      have HI2 := hide hI2
      have HS2 := hide hS2
      clear hI2 hS2 hjM ko
      go_wp2
      go_end0
      exact ⟨rfl, _, unhide HI2, unhide HS2⟩

set_option maxRecDepth 100000 in
set_option maxHeartbeats 1600000 in
theorem cut_neg {w : World} {p b : Nat} {v : Value} {rs : List ByteArray} (h : Ix w p b v rs) (z : Int) (hz : z < 0) (hk : 0 < rs.length) (hM : rs.length ≤ 140737488355328) : Calls Try.prog 32 #[.pointer (some ⟨p, 0, none⟩), .int .i64 z] w fun e w' =>
    e = .returned (.tuple #[]) ∧ ∃ v', Ix w' p b v' (rs.take 0) ∧ IStep p b w v w' v' := by
  obtain ⟨g, cap, ev, _⟩ := h.at hk
  have hcap := h.own
  rw [ev] at h hcap ⊢
  have hlc : rs.length ≤ cap := by
    rcases hcap.2 with ⟨e, _⟩ | ⟨g', cap', cur, e, _, _, hn, _⟩
    · cases e
    · cases e; exact hn
  have HI := hide h
  have HS := hide (CutAt.start h 0)
  have hc0 := h.c0
  have hp := h.lt
  have HD := hide (fun (wr : World) (c : CutAt w p b (.slice (some ⟨g, 0, none⟩) rs.length cap) rs 0 (rs.length - 0) wr) ty cp => CutAt.done h hk c ty cp)
  obtain ⟨n, hn⟩ : ∃ n, Hid (rs.length = n) := ⟨_, rfl⟩
  have hRt := hide (Rt.own h.own)
  rw [unhide hn] at hc0 hk hM hlc HD hRt HI HS ⊢
  clear h ev hcap
  go_enter Try.func32, Try.ntmps32
  go_wp2
  obtain ⟨M, hMd⟩ : ∃ M, n = M := ⟨_, rfl⟩
  subst hMd
  have HMd : Hid (0 + n = n) := by unfold Hid; omega
  rw [Nat.sub_zero] at HD
  go_loopg [21] n (fun g2 t21 wr => ∃ j : Nat, Hid (j + g2 = n) ∧ t21 = .int .i64 (j : Int) ∧ Hid (CutAt w p b (.slice (some ⟨g, 0, none⟩) n cap) rs 0 j wr))
  case atStart => exact ⟨0, by unfold Hid; omega, rfl, HS⟩
  case round =>
    obtain ⟨j, hj, rfl, hC⟩ := hrel
    have hkj : Hid (j < n → 0 + j < rs.length) := fun hlt => by rw [unhide hn]; have := unhide HMd; omega
    obtain ⟨k0, k1, kf, ko⟩ := (unhide hC).cells (unhide HI)
    have hp2 : p < wr.heap.size := World.block_lt_of_cell? _ _ k0
    by_cases hlt : j < n
    · have cj : wr.cell? ⟨g, 0 + j, none⟩ = some (.string (tx rs (0 + j))) := (Rt.own ko).cell0 (unhide hkj hlt)
      obtain ⟨w2, hrun, hC2⟩ := (unhide hC).step (unhide HI) (unhide hkj hlt) 0
      have HC2 := hide hC2
      obtain ⟨s, es⟩ : ∃ s, s = tx rs (0 + j) := ⟨_, rfl⟩
      rw [← es] at cj hrun
      clear es
      rw [Nat.zero_add] at cj
      have i0 : (0 : Int) ≤ (j : Int) := by omega
      have i1 : (j : Int) < (n : Int) := by omega
      clear ko hC2
      go_wp2
      go_roundg (gk - 1)
      case measure => have := unhide hj; omega
      case rel => exact ⟨j + 1, by have := unhide hj; unfold Hid; omega, by go_num, HC2⟩
    · have hjM : j = n := by have := unhide hj; omega
      obtain ⟨w2, hrun, q0, q1, q2, hI2, hS2⟩ := unhide HD wr (by have := unhide hC; rw [hjM] at this; exact this) 0 cap
      have HI2 := hide hI2
      have HS2 := hide hS2
      clear hI2 hS2 hjM ko
      go_wp2
      go_end0
      exact ⟨rfl, _, unhide HI2, unhide HS2⟩

theorem Ix.same {w : World} {p b : Nat} {v : Value} {rs : List ByteArray} (h : Ix w p b v rs) : Ix (w.setCell ⟨p, 0, none⟩ v) p b v rs ∧ IStep p b w v (w.setCell ⟨p, 0, none⟩ v) v := by
  have ho : ∀ i, i ≠ p → (w.setCell ⟨p, 0, none⟩ v).heap[i]? = w.heap[i]? := fun i hi => Below.heap_setCell _ _ _ _ hi
  refine ⟨⟨World.cell?_setCell_same _ _ _ h.c0, ?_, ?_, own_keep h.own (fun g hg => ho g (fun e => h.vp (e ▸ hg))), h.mp.keep (ho b (fun e => h.pb e.symm)), h.pb, h.vp, h.vb, h.nd, h.ok⟩, (Fr.refl _ w).setCell _ (.inr (.inl rfl)) _, .inl rfl⟩
  · rw [World.cell?_setCell_other _ _ _ _ (by simp)]; exact h.c1
  · rw [World.frozen?_setCell]; exact h.f0

theorem clear_none (a : Option Addr) (c : Nat) (W : World) : (Builtin.clear_ #[26] 0 #[.slice a 0 c]).run Try.prog W = .ok (.tuple #[]) W := by
  cases a <;> simp [Builtin.clear_, run_underlying Try.underlying26]

set_option maxRecDepth 100000 in
set_option maxHeartbeats 1600000 in
theorem cut_more {w : World} {p b : Nat} {v : Value} {rs : List ByteArray} (h : Ix w p b v rs) (z : Int) (hz : (rs.length : Int) < z) (hM : rs.length ≤ 140737488355328) : Calls Try.prog 32 #[.pointer (some ⟨p, 0, none⟩), .int .i64 z] w fun e w' =>
    e = .returned (.tuple #[]) ∧ ∃ v', Ix w' p b v' rs ∧ IStep p b w v w' v' := by
  have HS := hide h.same
  have hp := h.lt
  have hf := h.f0
  have hc0 := h.c0
  have hcl : ∀ a c W, (Builtin.clear_ #[26] 0 #[.slice a 0 c]).run Try.prog W = .ok (.tuple #[]) W := clear_none
  rcases h.own.2 with ⟨e, h0⟩ | ⟨g, cap, cur, e, _, _, hlc, _⟩
  · rw [e] at hc0 HS ⊢
    rw [h0] at hz 
    clear h e h0 hM
    go_enter Try.func32, Try.ntmps32
    go_wp2
    go_loopg [21] 0 (fun g2 t21 wr => t21 = .int .i64 0 ∧ wr = w)
    case atStart => exact ⟨rfl, rfl⟩
    case round =>
      obtain ⟨rfl, rfl⟩ := hrel
      go_wp2
      go_end0
      exact ⟨rfl, _, (unhide HS).1, (unhide HS).2⟩
  · rw [e] at hc0 HS ⊢
    obtain ⟨n, hn⟩ : ∃ n, Hid (rs.length = n) := ⟨_, rfl⟩
    rw [unhide hn] at hc0 hM hlc HS hz ⊢
    clear h e
    by_cases hcn : n = cap
    · subst hcn
      go_enter Try.func32, Try.ntmps32
      go_wp2
      go_loopg [21] 0 (fun g2 t21 wr => t21 = .int .i64 0 ∧ wr = w)
      case atStart => exact ⟨rfl, rfl⟩
      case round =>
        obtain ⟨rfl, rfl⟩ := hrel
        go_wp2
        go_end0
        exact ⟨rfl, _, (unhide HS).1, (unhide HS).2⟩
    · have hcn2 : n < cap := by omega
      clear hcn
      go_enter Try.func32, Try.ntmps32
      go_wp2
      go_loopg [21] 0 (fun g2 t21 wr => t21 = .int .i64 0 ∧ wr = w)
      case atStart => exact ⟨rfl, rfl⟩
      case round =>
        obtain ⟨rfl, rfl⟩ := hrel
        go_wp2
        go_end0
        exact ⟨rfl, _, (unhide HS).1, (unhide HS).2⟩

set_option maxRecDepth 100000 in
set_option maxHeartbeats 1600000 in
theorem cut_even {w : World} {p b : Nat} {v : Value} {rs : List ByteArray} (h : Ix w p b v rs)  (hM : rs.length ≤ 140737488355328) : Calls Try.prog 32 #[.pointer (some ⟨p, 0, none⟩), .int .i64 (rs.length : Int)] w fun e w' =>
    e = .returned (.tuple #[]) ∧ ∃ v', Ix w' p b v' rs ∧ IStep p b w v w' v' := by
  have HS := hide h.same
  have hp := h.lt
  have hf := h.f0
  have hc0 := h.c0
  have hcl : ∀ a c W, (Builtin.clear_ #[26] 0 #[.slice a 0 c]).run Try.prog W = .ok (.tuple #[]) W := clear_none
  rcases h.own.2 with ⟨e, h0⟩ | ⟨g, cap, cur, e, _, _, hlc, _⟩
  · rw [e] at hc0 HS ⊢
    rw [h0] at ⊢ 
    clear h e h0 hM
    go_enter Try.func32, Try.ntmps32
    go_wp2
    go_loopg [21] 0 (fun g2 t21 wr => t21 = .int .i64 0 ∧ wr = w)
    case atStart => exact ⟨rfl, rfl⟩
    case round =>
      obtain ⟨rfl, rfl⟩ := hrel
      go_wp2
      go_end0
      exact ⟨rfl, _, (unhide HS).1, (unhide HS).2⟩
  · rw [e] at hc0 HS ⊢
    obtain ⟨n, hn⟩ : ∃ n, Hid (rs.length = n) := ⟨_, rfl⟩
    rw [unhide hn] at hc0 hM hlc HS ⊢
    clear h e
    by_cases hcn : n = cap
    · subst hcn
      go_enter Try.func32, Try.ntmps32
      go_wp2
      go_loopg [21] 0 (fun g2 t21 wr => t21 = .int .i64 0 ∧ wr = w)
      case atStart => exact ⟨rfl, rfl⟩
      case round =>
        obtain ⟨rfl, rfl⟩ := hrel
        go_wp2
        go_end0
        exact ⟨rfl, _, (unhide HS).1, (unhide HS).2⟩
    · have hcn2 : n < cap := by omega
      clear hcn
      go_enter Try.func32, Try.ntmps32
      go_wp2
      go_loopg [21] 0 (fun g2 t21 wr => t21 = .int .i64 0 ∧ wr = w)
      case atStart => exact ⟨rfl, rfl⟩
      case round =>
        obtain ⟨rfl, rfl⟩ := hrel
        go_wp2
        go_end0
        exact ⟨rfl, _, (unhide HS).1, (unhide HS).2⟩

set_option maxRecDepth 100000 in
set_option maxHeartbeats 1600000 in
theorem cut_nil {w : World} {p b : Nat} {v : Value} (h : Ix w p b v []) (z : Int) (hz : z < 0) : Calls Try.prog 32 #[.pointer (some ⟨p, 0, none⟩), .int .i64 z] w fun e w' =>
    e = .returned (.tuple #[]) ∧ ∃ v', Ix w' p b v' [] ∧ IStep p b w v w' v' := by
  have HS := hide h.same
  have hp := h.lt
  have hf := h.f0
  have hc0 := h.c0
  have hcl : ∀ a c W, (Builtin.clear_ #[26] 0 #[.slice a 0 c]).run Try.prog W = .ok (.tuple #[]) W := clear_none
  obtain ⟨a, cap, e⟩ := h.shape
  have e2 : v = .slice a 0 cap := e
  rw [e2] at hc0 HS ⊢
  clear h e e2
  go_enter Try.func32, Try.ntmps32
  go_wp2
  go_loopg [21] 0 (fun g2 t21 wr => t21 = .int .i64 0 ∧ wr = w)
  case atStart => exact ⟨rfl, rfl⟩
  case round =>
    obtain ⟨rfl, rfl⟩ := hrel
    go_wp2
    go_end0
    exact ⟨rfl, _, (unhide HS).1, (unhide HS).2⟩
theorem take_toNat {rs : List ByteArray} {z : Int} (h : (rs.length : Int) ≤ z) : rs.take z.toNat = rs := List.take_of_length_le (by omega)
/-- Cut, whatever the number. -/
theorem cut_any {w : World} {p b : Nat} {v : Value} {rs : List ByteArray} (h : Ix w p b v rs) (z : Int) (hM : rs.length ≤ 140737488355328) : Calls Try.prog 32 #[.pointer (some ⟨p, 0, none⟩), .int .i64 z] w fun e w' =>
    e = .returned (.tuple #[]) ∧ ∃ v', Ix w' p b v' (rs.take z.toNat) ∧ IStep p b w v w' v' := by
  by_cases h1 : (rs.length : Int) < z
  · rw [take_toNat (by omega)]
    exact cut_more h z h1 hM
  by_cases h2 : (rs.length : Int) = z
  · rw [take_toNat (by omega), ← h2]
    exact cut_even h hM
  by_cases h3 : z < 0
  · rw [show z.toNat = 0 from by omega]
    by_cases h4 : 0 < rs.length
    · exact cut_neg h z h3 h4 hM
    · have e : rs = [] := List.eq_nil_of_length_eq_zero (by omega)
      rw [e]
      rw [e] at h
      exact cut_nil h z h3
  · obtain ⟨k, rfl⟩ : ∃ k : Nat, z = (k : Int) := ⟨z.toNat, by omega⟩
    rw [Int.toNat_natCast]
    exact cut_mid h k (by omega) hM
end Go.Proofs.Ythmcalapofjmfaa
