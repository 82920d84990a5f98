/-
  What was handed out, at the end.
-/
import Derived.Test.YthmcalapofjmfaaStep
namespace Go.Proofs.Ythmcalapofjmfaa
open Go.RowKit Go.Maps
set_option linter.unusedVariables false

theorem spine_cell {w : World} {v : Value} {n : Nat} {R : Nat → Value} (h : w.ownsRow 0 26 1 v n ((List.range n).map R)) : ∃ a cap, v = .slice a n cap ∧ ∀ j, j < n → ∃ g, a = some ⟨g, 0, none⟩ ∧ w.cell? ⟨g, j, none⟩ = some (R j) := by
  have hcs := fun g hg => World.ownsRow.cells h (g := g) hg
  rcases h.2 with ⟨e1, e2⟩ | ⟨g, cap, cu, e1, _⟩
  · exact ⟨none, 0, by rw [e1, e2], fun j hj => by omega⟩
  · refine ⟨_, cap, e1, fun j hj => ⟨g, rfl, ?_⟩⟩
    have := hcs g (by rw [e1]; rfl) j (R j) (by rw [List.getElem?_map, List.getElem?_range hj]; rfl)
    rw [addr_add0] at this
    exact this
theorem Rt.slice {w : World} {v : Value} {rs : List ByteArray} (h : Rt w v rs) : ∃ a cap, v = .slice a rs.length cap := by
  obtain ⟨a, cap, e, _⟩ := h
  exact ⟨a, cap, e⟩

set_option maxRecDepth 100000 in
set_option maxHeartbeats 1600000 in
theorem loose_any {w W0 : World} {d : Dat} (h : SC w d W0) (hnm : d.m = d.n) (hn : d.n ≤ 5864062014700) :
    Calls Try.prog 18 #[d.O, d.T] W0 fun e w' => e = .returned (.bool true) ∧ Fr (fun b => ∃ j, j < d.n ∧ (d.R j).ownBlock = some b) W0 w' := by
  obtain ⟨a, ca, eO, hO⟩ := spine_cell h.oo
  obtain ⟨b, cb, eT, hT⟩ := spine_cell h.tt
  rw [hnm] at eT hT
  have HH := hide h
  have HO := hide hO
  have HT := hide hT
  have HNM := hide hnm
  have EO := hide eO
  obtain ⟨N, hN⟩ : ∃ N, Hid (d.n = N) := ⟨_, rfl⟩
  rw [eO, eT, unhide hN]
  rw [unhide hN] at hn
  clear h hO hT hnm eO eT
  go_enter Try.func18, Try.ntmps18
  go_wp2
  go_loopg [5] N (fun g t5 wx => ∃ j : Nat, Hid (j + g = N) ∧ t5 = .int .i64 (j : Int) ∧ Hid (∃ q, wx = W0.drewN q))
  case atStart => exact ⟨0, by unfold Hid; omega, rfl, 0, rfl⟩
  case round =>
    obtain ⟨j, hj, rfl, HW⟩ := hrel
    by_cases hlt : j < N
    · obtain ⟨g, rfl, hc1⟩ := unhide HO j (by rw [unhide hN]; exact hlt)
      obtain ⟨g2, rfl, hc2⟩ := unhide HT j (by rw [unhide hN]; exact hlt)
      have hR := Rt.own ((unhide HH).rr j (by rw [unhide hN]; exact hlt))
      have hQ := (unhide HH).qq j (by rw [unhide HNM, unhide hN]; exact hlt)
      obtain ⟨ra, rc, er⟩ := hR.slice
      obtain ⟨qa, qc, eq⟩ := hQ.slice
      rw [er] at hc1 hR
      rw [eq] at hc2 hQ
      obtain ⟨L, eL⟩ : ∃ L, Hid ((d.xss j).length = L) := ⟨_, rfl⟩
      rw [unhide eL] at hc1 hc2 hR hQ
      have HS := hide (fun (W : World) (hW : Hid (∃ q, W = W0.drewN q)) m => same_any (w := W.drewN m) (va := .slice ra L rc) (vb := .slice qa L qc) (l := d.xss j) (by obtain ⟨q, e⟩ := unhide hW; rw [e]; exact (hR.drewN q).drewN m) (by obtain ⟨q, e⟩ := unhide hW; rw [e]; exact (hQ.drewN q).drewN m))
      have HS2 := hide (unhide HS _ HW)
      have c1 : wr.cell? ⟨g, j, none⟩ = some (.slice ra L rc) := by obtain ⟨q, e⟩ := unhide HW; rw [e]; exact hc1
      have c2 : wr.cell? ⟨g2, j, none⟩ = some (.slice qa L qc) := by obtain ⟨q, e⟩ := unhide HW; rw [e]; exact hc2
      have i0 : (0 : Int) ≤ (j : Int) := by omega
      have i1 : (j : Int) < (N : Int) := by omega
      clear hc1 hc2 hR hQ er eq HS
      go_wp2
      go_quiet (first | (go_at_call 19; exact Calls.quiet_of (unhide HS2 _)))
      go_wp2
      go_roundg (gk - 1)
      case measure => have := unhide hj; omega
      case rel => exact ⟨j + 1, by have := unhide hj; unfold Hid; omega, by go_num, by obtain ⟨q, e⟩ := unhide HW; exact ⟨q + nq, by rw [e, drewN_drewN]⟩⟩
    · have hAp : Hid (Calls Try.prog 36 #[.slice a N ca] wr fun e w' => e = .returned (.bool true) ∧ Fr (fun b => ∃ j, j < d.n ∧ (d.R j).ownBlock = some b) W0 w') := by
        obtain ⟨q, e⟩ := unhide HW
        obtain ⟨hRV, hMk, hlt, hg, hl⟩ := ((unhide HH).drewN q).forApart
        rw [unhide EO, unhide hN] at hRV
        rw [e]
        rw [unhide hN] at hMk hlt hg hl ⊢
        refine (apart_walk _ _ _ 0 _ hRV hMk (by rw [hl]; exact hn) (fun k => by have := (unhide HH).xl k; omega) (Nat.zero_le _) hlt).mono ?_
        rintro e w' ⟨he, hf⟩
        refine ⟨he, (Fr.drewN q).trans (hf.mono (fun b _ q => ?_))⟩
        obtain ⟨j, hj, e⟩ := q
        rw [hl] at hj
        rw [hg j hj] at e
        exact ⟨j, hj, e⟩
      clear HW
      go_wp2_with fail
      refine (unhide hAp).mono ?_
      rintro e w2 ⟨rfl, hF⟩
      have HF := hide hF
      clear hF hAp
      go_wp2
      go_ret
      rw [← unhide hN]
      exact ⟨rfl, unhide HF⟩
end Go.Proofs.Ythmcalapofjmfaa
