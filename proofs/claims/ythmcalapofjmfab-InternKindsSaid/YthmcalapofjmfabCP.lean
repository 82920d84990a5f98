/-
  Cut (kind P).
-/
import Derived.Test.YthmcalapofjmfabMP
namespace Go.Proofs.Ythmcalapofjmfab
open Go.RowKit Go.Maps
set_option linter.unusedVariables false

set_option maxRecDepth 100000 in
set_option maxHeartbeats 1600000 in
theorem cutP_mid {w : World} {p b : Nat} {v : Value} {ks : List Nat} (h : IxP w p b v ks) (k : Nat) (hk : k < ks.length) : Calls Try.prog 12 #[.pointer (some ⟨p, 0, none⟩), .int .i64 (k : Int)] w fun e w' =>
    e = .returned (.tuple #[]) ∧ ∃ v', IxP w' p b v' (ks.take k) ∧ IStep p b w v w' v' := by
  have hsm := h.small
  obtain ⟨g, cap, ev, _⟩ := IxP.cell (p := p) (b := b) h.own hk 0 (by omega)
  have hcap := h.own
  rw [ev] at h hcap ⊢
  have hlc : ks.length ≤ cap := by
    rcases hcap.2 with ⟨e, _⟩ | ⟨g', cap', cur, e, _, _, hn, _⟩
    · cases e
    · cases e; exact hn
  have HI := hide h
  have HS := hide (CutAtP.start h k)
  have hc0 := h.c0
  have hp := h.lt
  have HD := hide (fun (wr : World) (c : CutAtP w p b (.slice (some ⟨g, 0, none⟩) ks.length cap) ks k (ks.length - k) wr) ty cp => CutAtP.done h hk c ty cp)
  obtain ⟨n, hn⟩ : ∃ n, Hid (ks.length = n) := ⟨_, rfl⟩
  rw [unhide hn] at hc0 hk hlc HD HI HS hsm ⊢
  clear h ev hcap
  go_enter Try.func12, Try.ntmps12
  go_wp2
  obtain ⟨M, hMd⟩ : ∃ M, n - k = M := ⟨_, rfl⟩
  have hMn : M ≤ n := by omega
  have HMd : Hid (k + M = n) := by unfold Hid; omega
  rw [hMd] at HD ⊢
  clear hMd
  go_loopg [21] M (fun g2 t21 wr => ∃ j : Nat, Hid (j + g2 = M) ∧ t21 = .int .i64 (j : Int) ∧ Hid (CutAtP w p b (.slice (some ⟨g, 0, none⟩) n cap) ks k j wr))
  case atStart => exact ⟨0, by unfold Hid; omega, rfl, HS⟩
  case round =>
    obtain ⟨j, hj, rfl, hC⟩ := hrel
    have hkj : Hid (j < M → k + j < ks.length) := fun hlt => by rw [unhide hn]; have := unhide HMd; omega
    obtain ⟨k0, k1, kf, ko⟩ := (unhide hC).cells (unhide HI)
    have hp2 : p < wr.heap.size := World.block_lt_of_cell? _ _ k0
    by_cases hlt : j < M
    · obtain ⟨x, y, ef, ec⟩ := valP_form (tx ks (k + j))
      obtain ⟨g', cap', eg, cj⟩ := IxP.cell (p := p) (b := b) ko (unhide hkj hlt) 0 (by omega)
      obtain ⟨g2, cap2, eg2, cj2⟩ := IxP.cell (p := p) (b := b) ko (unhide hkj hlt) 1 (by omega)
      simp only [Value.slice.injEq, Option.some.injEq, Addr.mk.injEq] at eg eg2
      have eg1 := eg.1.1
      have eg3 := eg2.1.1
      clear eg eg2
      subst eg1 eg3
      rw [ec] at cj cj2
      simp only [List.getElem?_cons_zero, List.getElem?_cons_succ, Nat.add_zero] at cj cj2
      have eo : (k + j) * 2 = k * 2 + j * 2 := by omega
      rw [eo] at cj cj2
      have HEF := hide ef
      have i0 : (0 : Int) ≤ (j : Int) := by omega
      have i1 : (j : Int) < (M : Int) := by omega
      clear ko ef ec eo
      have hBb : Below wr.heap.size wr (wr.alloc (.cells #[.int .i64 x, .int .i64 y] 28)).drew := ((Below.refl _ _).alloc (Nat.le_refl _) _).drew
      obtain ⟨w2, hrun, hC2, hf2⟩ := ((unhide hC).below (unhide HI).blt hBb).step (unhide HI) (unhide hkj hlt) 0
      rw [unhide HEF] at hrun
      have hgx := heap_alloc_new wr (.cells #[.int .i64 x, .int .i64 y] 28)
      have bx0 : (wr.alloc (.cells #[.int .i64 x, .int .i64 y] 28)).drew.cell? ⟨wr.heap.size, 0, none⟩ = some (.int .i64 x) := by show (wr.alloc (.cells #[.int .i64 x, .int .i64 y] 28)).cell? _ = _; simp only [World.cell?, hgx]; rfl
      have bx1 : (wr.alloc (.cells #[.int .i64 x, .int .i64 y] 28)).drew.cell? ⟨wr.heap.size, 1, none⟩ = some (.int .i64 y) := by show (wr.alloc (.cells #[.int .i64 x, .int .i64 y] 28)).cell? _ = _; simp only [World.cell?, hgx]; rfl
      have mp1 : (wr.alloc (.cells #[.int .i64 x, .int .i64 y] 28)).drew.cell? ⟨p, 1, none⟩ = some (.map (some b)) := (hBb.cell (p := ⟨p, 1, none⟩) hp2).trans k1
      have hbw : b < wr.heap.size := Nat.lt_of_lt_of_le (unhide HI).blt (unhide hC).fr.size
      have hzb : (wr.alloc (.cells #[.int .i64 x, .int .i64 y] 28)).drew.heap.size = wr.heap.size + 1 := by show (wr.alloc (.cells #[.int .i64 x, .int .i64 y] 28)).heap.size = _; simp
      have bx02 := (hf2.cell (a := ⟨wr.heap.size, 0, none⟩) (by rw [hzb]; show wr.heap.size < _; omega) (by show ¬ wr.heap.size = b; omega)).trans bx0
      have bx12 := (hf2.cell (a := ⟨wr.heap.size, 1, none⟩) (by rw [hzb]; show wr.heap.size < _; omega) (by show ¬ wr.heap.size = b; omega)).trans bx1
      have mp2 := (hf2.cell (a := ⟨p, 1, none⟩) (by rw [hzb]; show p < _; omega) (unhide HI).pb).trans mp1
      have HC2 := hide hC2
      have HSA := hide (And.intro bx0 (And.intro bx1 mp1))
      have HSB := hide (And.intro bx02 (And.intro bx12 mp2))
      clear hC2 hf2 hgx bx0 bx1 mp1 bx02 bx12 mp2 hzb hBb hbw
      go_wp2
      refine wp_region_held_drew (S := fun wx => wx.cell? ⟨wr.heap.size, 0, none⟩ = some (.int .i64 x) ∧ wx.cell? ⟨wr.heap.size, 1, none⟩ = some (.int .i64 y) ∧ wx.cell? ⟨p, 1, none⟩ = some (.map (some b))) (by kernel_rfl) (unhide HSA) (fun hHeld => ?_)
      refine wpAnyH_take (i := 0) (oi := _) (v := .pointer (some ⟨p, 0, none⟩)) rfl (by kernel_rfl) (by kernel_rfl) (by kernel_rfl) (fun _ _ _ h => h) (Or.inl ⟨by rfl, (by intro w hSw; go_simp)⟩) (by assumption) ?_
      refine wpAnyH_take (i := 1) (oi := _) (v := .pointer (some ⟨p, 0, none⟩)) rfl (by kernel_rfl) (by kernel_rfl) (by kernel_rfl) (fun _ _ _ h => h) (Or.inl ⟨by rfl, (by intro w hSw; go_simp)⟩) (by assumption) ?_
      refine wpAnyH_take (i := 2) (oi := _) (v := .pointer (some ⟨p, 1, none⟩)) rfl (by kernel_rfl) (by kernel_rfl) (by kernel_rfl) (fun _ _ _ h => h) (Or.inl ⟨by rfl, (by intro w hSw; go_simp)⟩) (by assumption) ?_
      go_simp
      refine wpAnyH_take (i := 3) (oi := _) (v := .map (some b)) rfl (by kernel_rfl) (by kernel_rfl) (by kernel_rfl) (fun _ _ _ h => h) (Or.inl ⟨by rfl, (by intro w hSw; obtain ⟨hs1, hs2, hs3⟩ := hSw; go_simp)⟩) (by assumption) ?_
      refine wpAnyH_take (i := 4) (oi := _) (v := .agg #[.int .i64 x, .int .i64 y]) rfl (by kernel_rfl) (by kernel_rfl) (by kernel_rfl) (fun _ _ _ h => h) (Or.inl ⟨by rfl, (by intro w hSw; obtain ⟨hs1, hs2, hs3⟩ := hSw; go_simp)⟩) (by assumption) ?_
      go_simp
      refine wpAnyH_ready (rs := [5]) (by kernel_rfl) (by simp) ?_
      refine AllReadyH.cons (o := _) rfl (fun K hK => ?_) AllReadyH.nil
      go_simp
      refine hK.out _ _ (unhide HSB) (fun hHeld6 => ?_)
      clear hK
      refine wpAnyH_done (by kernel_rfl) ?_ _
      clear hHeld hHeld6 hrun HSA HSB
      go_wp2
      go_roundg (gk - 1)
      case measure => have := unhide hj; omega
      case rel => exact ⟨j + 1, by have := unhide hj; unfold Hid; omega, by go_num, HC2⟩
    · have hjM : j = M := by have := unhide hj; omega
      obtain ⟨w2, hrun, q0, q1, q2, hI2, hS2⟩ := unhide HD wr (by have := unhide hC; rw [hjM] at this; exact this) 0 (cap - k)
      rw [show M = n - k from by have := unhide HMd; omega] at hrun
      have HI2 := hide hI2
      have HS2 := hide hS2
      clear hI2 hS2 hjM ko
      go_wp2
      go_end0
      exact ⟨rfl, _, unhide HI2, unhide HS2⟩

set_option maxRecDepth 100000 in
set_option maxHeartbeats 1600000 in
theorem cutP_more {w : World} {p b : Nat} {v : Value} {ks : List Nat} (h : IxP w p b v ks) (z : Int) (hz : (ks.length : Int) < z) : Calls Try.prog 12 #[.pointer (some ⟨p, 0, none⟩), .int .i64 z] w fun e w' =>
    e = .returned (.tuple #[]) ∧ ∃ v', IxP w' p b v' ks ∧ IStep p b w v w' v' := by
  have HS := hide h.same
  have hp := h.lt
  have hf := h.f0
  have hc0 := h.c0
  have hsm := h.small
  have hcl : ∀ a c W, (Builtin.clear_ #[57] 0 #[.slice a 0 c]).run Try.prog W = .ok (.tuple #[]) W := clear_noneP
  rcases h.own.2 with ⟨e, h0⟩ | ⟨g, cap, cur, e, _, _, hlc, _⟩
  · rw [e] at hc0 HS ⊢
    rw [h0] at hz 
    clear h e h0 hsm
    go_enter Try.func12, Try.ntmps12
    go_wp2
    go_loopg [21] 0 (fun g2 t21 wr => t21 = .int .i64 0 ∧ wr = w)
    case atStart => exact ⟨rfl, rfl⟩
    case round =>
      obtain ⟨rfl, rfl⟩ := hrel
      go_wp2
      go_end0
      exact ⟨rfl, _, (unhide HS).1, (unhide HS).2⟩
  · rw [e] at hc0 HS ⊢
    obtain ⟨n, hn⟩ : ∃ n, Hid (ks.length = n) := ⟨_, rfl⟩
    rw [unhide hn] at hc0 hlc HS hsm hz ⊢
    clear h e
    by_cases hcn : n = cap
    · subst hcn
      go_enter Try.func12, Try.ntmps12
      go_wp2
      go_loopg [21] 0 (fun g2 t21 wr => t21 = .int .i64 0 ∧ wr = w)
      case atStart => exact ⟨rfl, rfl⟩
      case round =>
        obtain ⟨rfl, rfl⟩ := hrel
        go_wp2
        go_end0
        exact ⟨rfl, _, (unhide HS).1, (unhide HS).2⟩
    · have hcn2 : n < cap := by omega
      clear hcn
      go_enter Try.func12, Try.ntmps12
      go_wp2
      go_loopg [21] 0 (fun g2 t21 wr => t21 = .int .i64 0 ∧ wr = w)
      case atStart => exact ⟨rfl, rfl⟩
      case round =>
        obtain ⟨rfl, rfl⟩ := hrel
        go_wp2
        go_end0
        exact ⟨rfl, _, (unhide HS).1, (unhide HS).2⟩

set_option maxRecDepth 100000 in
set_option maxHeartbeats 1600000 in
theorem cutP_even {w : World} {p b : Nat} {v : Value} {ks : List Nat} (h : IxP w p b v ks)  : Calls Try.prog 12 #[.pointer (some ⟨p, 0, none⟩), .int .i64 (ks.length : Int)] w fun e w' =>
    e = .returned (.tuple #[]) ∧ ∃ v', IxP w' p b v' ks ∧ IStep p b w v w' v' := by
  have HS := hide h.same
  have hp := h.lt
  have hf := h.f0
  have hc0 := h.c0
  have hsm := h.small
  have hcl : ∀ a c W, (Builtin.clear_ #[57] 0 #[.slice a 0 c]).run Try.prog W = .ok (.tuple #[]) W := clear_noneP
  rcases h.own.2 with ⟨e, h0⟩ | ⟨g, cap, cur, e, _, _, hlc, _⟩
  · rw [e] at hc0 HS ⊢
    rw [h0] at ⊢ 
    clear h e h0 hsm
    go_enter Try.func12, Try.ntmps12
    go_wp2
    go_loopg [21] 0 (fun g2 t21 wr => t21 = .int .i64 0 ∧ wr = w)
    case atStart => exact ⟨rfl, rfl⟩
    case round =>
      obtain ⟨rfl, rfl⟩ := hrel
      go_wp2
      go_end0
      exact ⟨rfl, _, (unhide HS).1, (unhide HS).2⟩
  · rw [e] at hc0 HS ⊢
    obtain ⟨n, hn⟩ : ∃ n, Hid (ks.length = n) := ⟨_, rfl⟩
    rw [unhide hn] at hc0 hlc HS hsm ⊢
    clear h e
    by_cases hcn : n = cap
    · subst hcn
      go_enter Try.func12, Try.ntmps12
      go_wp2
      go_loopg [21] 0 (fun g2 t21 wr => t21 = .int .i64 0 ∧ wr = w)
      case atStart => exact ⟨rfl, rfl⟩
      case round =>
        obtain ⟨rfl, rfl⟩ := hrel
        go_wp2
        go_end0
        exact ⟨rfl, _, (unhide HS).1, (unhide HS).2⟩
    · have hcn2 : n < cap := by omega
      clear hcn
      go_enter Try.func12, Try.ntmps12
      go_wp2
      go_loopg [21] 0 (fun g2 t21 wr => t21 = .int .i64 0 ∧ wr = w)
      case atStart => exact ⟨rfl, rfl⟩
      case round =>
        obtain ⟨rfl, rfl⟩ := hrel
        go_wp2
        go_end0
        exact ⟨rfl, _, (unhide HS).1, (unhide HS).2⟩

/-- Cut, from a number on. -/
theorem cutP_any {w : World} {p b : Nat} {v : Value} {ks : List Nat} (h : IxP w p b v ks) (k : Nat) : Calls Try.prog 12 #[.pointer (some ⟨p, 0, none⟩), .int .i64 (k : Int)] w fun e w' =>
    e = .returned (.tuple #[]) ∧ ∃ v', IxP w' p b v' (ks.take k) ∧ IStep p b w v w' v' := by
  by_cases h1 : k < ks.length
  · exact cutP_mid h k h1
  · rw [List.take_of_length_le (by omega)]
    by_cases h2 : k = ks.length
    · rw [h2]; exact cutP_even h
    · exact cutP_more h (k : Int) (by omega)
end Go.Proofs.Ythmcalapofjmfab
