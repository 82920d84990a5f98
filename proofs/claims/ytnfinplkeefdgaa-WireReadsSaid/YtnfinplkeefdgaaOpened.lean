/-
  A reader that is opened over bytes that are lent, and written over behind the call.
-/
import Derived.Test.YtnfinplkeefdgaaKept
namespace Go.Proofs.Ytnfinplkeefdgaa
open Go.RowKit

set_option maxHeartbeats 400000 in
set_option maxRecDepth 100000 in
theorem newReader_or (v : Value) (bs : List Int) (w : World) (h : Rd w v bs) (hb : bs.length ≤ 140737488355328) :
    Calls Try.prog 10 #[v] w fun e w' => ∃ r v2, e = .returned (.pointer (some ⟨r, 0, none⟩)) ∧ w.heap.size ≤ r ∧ (∀ x, v2.ownBlock = some x → w.heap.size ≤ x ∧ x < w'.heap.size ∧ x ≠ r) ∧
      (∀ rb, (∀ x, v2.ownBlock = some x → rb = x) → rb ≠ r → Rdr w' r rb v2 bs 0) ∧ Below w.heap.size w w' := by
  have hC := hide (clone_any v bs w h hb)
  clear h
  go_enter Try.func10, Try.ntmps10
  go_wp2_with fail
  refine (unhide hC).mono ?_
  rintro e w1 ⟨v3, rfl, ho, hB⟩
  obtain ⟨a, l, c, rfl⟩ := own_shape ho
  have HO := hide (And.intro ho hB)
  clear ho hB
  go_wp2
  go_ret
  obtain ⟨ho, hB⟩ := unhide HO
  have hR := Rd.of_own ho
  have hlt := ho.lt
  refine ⟨w1.heap.size, .slice a l c, rfl, hB.size, fun x hx => ?_, fun rb hrb hne => ⟨by simp, by simp, ?_, ?_, hR.keep (S := fun _ => False) ((Fr.refl _ _).alloc _) (by simp), ?_, hne⟩, hB.alloc hB.size _⟩
  · have := hlt x hx
    refine ⟨this.1, by simp; omega, by omega⟩
  · simp only [World.frozen?, heap_alloc_new]; rfl
  · simp only [World.frozen?, heap_alloc_new]; rfl
  · intro b off len cap hv
    exact (hrb b (by rw [hv]; rfl)).symm

theorem chainB1' {w w1 w2 : World} (h : Below w.heap.size w w1) (f : Below w1.heap.size w1 w2) : Below w.heap.size w w2 := h.trans (f.mono h.size)
/-- The cells of a row of one's own. -/
theorem Grows.row {w0 w : World} {v : Value} {bs : List Int} (h : Grows w0 v bs w) (hne : 0 < bs.length) :
    ∃ g cap, v = .slice (some ⟨g, 0, none⟩) bs.length cap ∧ w0.heap.size ≤ g ∧ g < w.heap.size ∧ bs.length ≤ cap ∧ cap ≤ maxLen ∧ (∀ i, i < bs.length → w.cell? ⟨g, i, none⟩ = some (.int .u8 (bs.getD i 0))) ∧ ∀ i, w.frozen? ⟨g, i, none⟩ = false := by
  have hlt := h.1.lt
  have hcs := fun g hg => World.ownsRow.cells h.1 (g := g) hg
  rcases h.1.2 with ⟨_, h0⟩ | ⟨g, cap, cur, rfl, hb, hg, hn, hc, hs, ht⟩
  · omega
  · refine ⟨g, cap, rfl, hb, (hlt g rfl).2, hn, hc, fun i hi => ?_, fun i => ?_⟩
    · have := hcs g rfl i (.int .u8 (bs.getD i 0)) (by simp [By, List.getD, hi])
      rw [addr_add0] at this
      exact this
    · simp only [World.frozen?, hg]
      simp

/-- A row that is written over. -/
structure Over (g n : Nat) (w0 w : World) : Prop where
  cells : ∀ i, i < n → ∃ z, w.cell? ⟨g, i, none⟩ = some (.int .u8 z)
  frz : ∀ i, w.frozen? ⟨g, i, none⟩ = false
  fr : Fr (fun k => k = g) w0 w
theorem Over.set {g n : Nat} {w0 w : World} (h : Over g n w0 w) (j : Nat) (hj : j < n) (z : Int) : Over g n w0 (w.setCell ⟨g, j, none⟩ (.int .u8 z)) := by
  refine ⟨fun i hi => ?_, fun i => by rw [World.frozen?_setCell]; exact h.frz i, Fr.setCell (S := fun k => k = g) h.fr ⟨g, j, none⟩ (.inr rfl) _⟩
  by_cases hij : i = j
  · subst hij
    obtain ⟨y, hy⟩ := h.cells i hi
    exact ⟨z, World.cell?_setCell_same _ _ _ hy⟩
  · rw [World.cell?_setCell_other _ _ _ _ (by simp)]
    exact h.cells i hi

set_option maxHeartbeats 1600000 in
set_option maxRecDepth 100000 in
theorem opened_any (v : Value) (B : List Int) (w : World) (hR : Rd w v B) (hN : B.length + 64 ≤ 140737488355328) :
    Calls Try.prog 33 #[v] w fun e w' => ∃ r rb v2, e = .returned (.pointer (some ⟨r, 0, none⟩)) ∧ w.heap.size ≤ r ∧ w.heap.size ≤ rb ∧ rb < w'.heap.size ∧ Rdr w' r rb v2 B 0 ∧ Below w.heap.size w w' := by
  obtain ⟨a, cap, hv⟩ := hR.shapeR
  have HR := hide hR
  have HV := hide hv
  have hL := lent_any v B w hR hN
  obtain ⟨N, hNN⟩ : ∃ N, Hid (B.length = N) := ⟨_, rfl⟩
  rw [hv, unhide hNN] at hL ⊢
  rw [unhide hNN] at hN
  have HL := hide hL
  clear hR hv hL
  go_enter Try.func33, Try.ntmps33
  go_wp2_with fail
  refine (unhide HL).mono ?_
  rintro e w1 ⟨vl, rfl, hG⟩
  have hlen : (B ++ marks 64).length = N + 64 := by rw [List.length_append, marks_length, unhide hNN]
  obtain ⟨g, cl, rfl, hg0, hg1, hcl, hcm, hcells, hfrz⟩ := hG.row (by omega)
  have hRl : Rd w1 (.slice (some ⟨g, 0, none⟩) (B ++ marks 64).length cl) (B ++ marks 64) := .inr ⟨g, 0, cl, rfl, hcl, hcm, hg1, fun i hi => by rw [Nat.zero_add]; exact hcells i hi⟩
  have hRp := hRl.part 0 0 N (by omega) (fun _ => rfl)
  rw [show ((B ++ marks 64).drop 0).take N = B from by rw [List.drop_zero]; exact take_app B (marks 64) N (unhide hNN), Nat.sub_zero] at hRp
  have hNR := newReader_or _ B w1 hRp (by rw [unhide hNN]; omega)
  have HNR := hide hNR
  have HRl := hide hRl
  have HB1 := hide hG.2
  have hO1 : Hid (∀ w2, Below w1.heap.size w1 w2 → Over g (N + 64) w2 w2) := fun w2 hB => ⟨fun i hi => ⟨_, (hB.cell (p := ⟨g, i, none⟩) hg1).trans (hcells i (by omega))⟩, fun i => (Fr.frozen (Fr.of_below (S := fun _ => False) hB) (a := ⟨g, i, none⟩) hg1 (by simp)).trans (hfrz i), Fr.refl _ _⟩
  rw [hlen] at hcl HRl ⊢
  have i1 : (N : Int) ≤ (cl : Int) := by omega
  unfold maxLen at hcm
  have HG := hide (And.intro hg0 hg1)
  have HLen := hide hlen
  clear hG hRl hRp hNR hcells hfrz hlen HL hg0
  go_wp2_with fail
  refine (unhide HNR).mono ?_
  rintro e w2 ⟨r, v2, rfl, hr, hx, hRd, hB2⟩
  have HB2 := hide (chainB1' (unhide HB1) hB2)
  have hK := kept_any (.slice (some ⟨g, 0, none⟩) (N + 64) cl) v B w2 ((unhide HRl).below hB2) ((unhide HR).below (unhide HB2)) (by rw [unhide hNN]; exact hN)
  rw [unhide HV, unhide hNN] at hK
  have HK := hide hK
  have HO := hide (unhide hO1 w2 hB2)
  have HX := hide (And.intro hr (And.intro hx (And.intro hRd hB2.size)))
  clear hK hB2 hRd hx hr hO1 HNR
  go_wp2_with fail
  refine (unhide HK).mono ?_
  rintro e w3 ⟨rfl, hw3⟩
  rw [hw3]
  clear hw3 w3 HK
  go_wp2
  go_loopg [5] (N + 64) (fun k s wr => ∃ (j : Nat), Hid (j + k = N + 64) ∧ s = .int .i64 (j : Int) ∧ Hid (Over g (N + 64) w2 wr))
  case atStart => exact ⟨0, by unfold Hid; omega, rfl, HO⟩
  case round =>
    obtain ⟨j, hj, rfl, hO⟩ := hrel
    by_cases hlt : j < N + 64
    · obtain ⟨z, hz⟩ := (unhide hO).cells j hlt
      have hf := (unhide hO).frz j
      have i2 : (0 : Int) ≤ (j : Int) := by omega
      have i3 : (j : Int) < (N : Int) + 64 := by omega
      have HS := hide (fun y => (unhide hO).set j hlt y)
      go_wp2
      go_roundg (gk - 1)
      case measure => have := unhide hj; omega
      case rel => exact ⟨j + 1, by have := unhide hj; unfold Hid; omega, by go_num, unhide HS _⟩
    · go_wp2
      go_ret
      obtain ⟨hr, hx, hRd, hs2⟩ := unhide HX
      obtain ⟨hg0, hg1⟩ := unhide HG
      have hF := (unhide hO).fr
      have hsz := hF.size
      have hBel : Below w.heap.size w wr := (unhide HB2).trans (hF.below (unhide HB2).size (by intro k hk e; omega))
      have hwr : w.heap.size ≤ r := Nat.le_trans (unhide HB1).size hr
      rcases hb : v2.ownBlock with _ | x
      · refine ⟨r, g, v2, rfl, hwr, hg0, by omega, (hRd g (fun x h => by rw [hb] at h; cases h) (by omega)).keep hF (by omega) (fun b off len cap e => ?_), hBel⟩
        rw [e] at hb; simp [Value.ownBlock] at hb
      · obtain ⟨x1, x2, x3⟩ := hx x hb
        refine ⟨r, x, v2, rfl, hwr, by have := (unhide HB1).size; omega, by omega, (hRd x (fun y h => by rw [hb] at h; exact Option.some.inj h) x3).keep hF (by omega) (fun b off len cap e => ?_), hBel⟩
        rw [e] at hb
        simp only [Value.ownBlock, Option.some.injEq] at hb
        omega
end Go.Proofs.Ytnfinplkeefdgaa
