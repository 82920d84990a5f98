/-
  Profiles held against each other.
-/
import Derived.Test.YtjjfpokmpcpicaaPfT
namespace Go.Proofs.Ytjjfpokmpcpicaa
open Go.RowKit
set_option linter.unusedVariables false
set_option linter.unusedSimpArgs false
/-- Two boxes of one cell each, made first. -/
def Bx2 (w : World) (a b : Value) (wr : World) : Prop :=
  Below w.heap.size w wr ∧ wr.cell? ⟨w.heap.size, 0, none⟩ = some a ∧ wr.cell? ⟨w.heap.size + 1, 0, none⟩ = some b ∧ w.heap.size + 2 ≤ wr.heap.size
theorem Bx2.start (w : World) (a b : Value) (t1 t2 : TypeId) : Bx2 w a b ((w.alloc (.cells #[a] t1)).alloc (.cells #[b] t2)) := by
  have h1 : ((w.alloc (.cells #[a] t1)).alloc (.cells #[b] t2)).heap[w.heap.size]? = some (.cells #[a] t1) := by
    rw [Below.heap_alloc _ _ _ (by simp only [World.size_alloc]; omega)]; exact heap_alloc_new w _
  have h2 : ((w.alloc (.cells #[a] t1)).alloc (.cells #[b] t2)).heap[w.heap.size + 1]? = some (.cells #[b] t2) := by
    have := heap_alloc_new (w.alloc (.cells #[a] t1)) (.cells #[b] t2)
    simpa only [World.size_alloc] using this
  exact ⟨bl_two w _ _, (blk_cells h1).1 0, (blk_cells h2).1 0, by simp only [World.size_alloc]; omega⟩
theorem Bx2.on {w wr w' : World} {a b : Value} (h : Bx2 w a b wr) (k : Below wr.heap.size wr w') : Bx2 w a b w' := by
  obtain ⟨h1, h2, h3, h4⟩ := h
  have hs := k.size
  exact ⟨bl_past h1 k, (k.cell (p := ⟨w.heap.size, 0, none⟩) (by show w.heap.size < _; omega)).trans h2, (k.cell (p := ⟨w.heap.size + 1, 0, none⟩) (by show w.heap.size + 1 < _; omega)).trans h3, by omega⟩
set_option maxRecDepth 100000 in
set_option maxHeartbeats 3200000 in
theorem sameP_any {w : World} {av bv : Value} {f g : List (List Sp)} (ha : PfV w av f) (hb : PfV w bv g) :
    Calls Try.prog 14 #[.agg #[av], .agg #[bv]] w fun e w' => e = .returned (.bool (Dc (f = g))) ∧ Below w.heap.size w w' := by
  obtain ⟨a, acap, rfl, ha1, ha2⟩ := ha.shape
  obtain ⟨b, bcap, rfl, hb1, hb2⟩ := hb.shape
  have HA := hide (fun i l (hl : f[i]? = some l) => ha.row hl)
  have HB := hide (fun i l (hl : g[i]? = some l) => hb.row hl)
  unfold maxLen at ha2 hb2
  clear ha hb
  by_cases hlm : f.length = g.length
  · obtain ⟨L, hL⟩ : ∃ L, Hid (f.length = L) := ⟨_, hide rfl⟩
    have hM : Hid (g.length = L) := by rw [← hlm]; exact hL
    rw [unhide hL] at ha1 ⊢
    rw [unhide hM] at hb1 ⊢
    clear hlm
    have HX := hide (Bx2.start w (.slice a L acap) (.slice b L bcap) 28 28)
    have d0 : (((L : Nat) : Int) != (L : Int)) = false := by simp
    go_enter Try.func14, Try.ntmps14
    go_wp2_with fail
    go_loopg [5] L (fun gg t5 wr => ∃ (i : Nat), Hid (i + gg = L) ∧ t5 = .int .i64 (i : Int) ∧ Hid (Bx2 w (.slice a L acap) (.slice b L bcap) wr ∧ ∀ j, j < i → f[j]? = g[j]?))
    case atStart => exact ⟨0, by unfold Hid; omega, rfl, unhide HX, fun j hj => by omega⟩
    case round =>
      clear HX
      obtain ⟨i, hi, rfl, hBX⟩ := hrel
      obtain ⟨bl, q0, q1, bs⟩ := (unhide hBX).1
      have HBL := hide bl
      clear bl
      have b0 : w.heap.size < wr.heap.size := by omega
      have b1 : w.heap.size + 1 < wr.heap.size := by omega
      by_cases hlt : i < L
      · have hil : i < f.length := by rw [unhide hL]; exact hlt
        have him : i < g.length := by rw [unhide hM]; exact hlt
        obtain ⟨p, hp⟩ : ∃ p, f[i]? = some p := ⟨_, List.getElem?_eq_getElem hil⟩
        obtain ⟨q, hq⟩ : ∃ q, g[i]? = some q := ⟨_, List.getElem?_eq_getElem him⟩
        obtain ⟨ab, ao, pa, pc, ea, ha4, ca, ra, ha5, ha6⟩ := unhide HA i p hp
        obtain ⟨bb, bo, qa, qc, eb, hb4, cb, rb, hb5, hb6⟩ := unhide HB i q hq
        subst ea
        subst eb
        have RA := hide ra
        have RB := hide rb
        unfold maxLen at ha6 hb6
        have k0 : wr.cell? ⟨ab, ao + i, none⟩ = some (.slice pa p.length pc) := ((unhide HBL).cell (p := ⟨ab, ao + i, none⟩) ha4).trans ca
        have r0 : wr.cell? ⟨bb, bo + i, none⟩ = some (.slice qa q.length qc) := ((unhide HBL).cell (p := ⟨bb, bo + i, none⟩) hb4).trans cb
        have hbr := Nat.lt_of_lt_of_le ha4 (unhide HBL).size
        have hgr := Nat.lt_of_lt_of_le hb4 (unhide HBL).size
        have i0 : (0 : Int) ≤ (i : Int) := by omega
        have i1 : (i : Int) < (L : Int) := by omega
        have HP := hide hp
        have HQ := hide hq
        have HCA := hide ca
        have HCB := hide cb
        clear hp hq ca cb ra rb
        obtain ⟨P, hP⟩ : ∃ P, Hid (p.length = P) := ⟨_, hide rfl⟩
        obtain ⟨Q, hQ⟩ : ∃ Q, Hid (q.length = Q) := ⟨_, hide rfl⟩
        rw [unhide hP] at k0 ha5 HCA
        rw [unhide hQ] at r0 hb5 HCB
        obtain ⟨G0, hG0⟩ : ∃ G0 : Nat, Hid (G0 = gk) := ⟨_, hide rfl⟩
        by_cases hPQ : P = Q
        · subst hPQ
          have d1 : (((P : Nat) : Int) != (P : Int)) = false := by simp
          go_wp2_with fail
          go_quiet (fail)
          have HX2 := hide ((unhide hBX).1.on (bl_drewN wr nq))
          have HE := hide (unhide hBX).2
          obtain ⟨X, hX⟩ : ∃ X, Hid (wr.drewN nq = X) := ⟨_, hide rfl⟩
          rw [unhide hX] at HX2 ⊢
          clear hX hBX HBL q0 q1 bs b0 b1 k0 r0 hbr hgr
          go_wp2_with fail
          go_loopg [6] P (fun gg t6 wr => ∃ (j : Nat), Hid (j + gg = P) ∧ t6 = .int .i64 (j : Int) ∧ Hid (Bx2 w (.slice (some ⟨ab, ao, none⟩) L acap) (.slice (some ⟨bb, bo, none⟩) L bcap) wr ∧ ∀ k, k < j → p[k]? = q[k]?))
          case atStart => exact ⟨0, by unfold Hid; omega, rfl, unhide HX2, fun j hj => by omega⟩
          case round =>
            clear HX2
            obtain ⟨j, hj, rfl, hBX⟩ := hrel
            obtain ⟨bl, q0, q1, bs⟩ := (unhide hBX).1
            have HBL := hide bl
            clear bl
            have b0 : w.heap.size < wr.heap.size := by omega
            have b1 : w.heap.size + 1 < wr.heap.size := by omega
            have hbr := Nat.lt_of_lt_of_le ha4 (unhide HBL).size
            have hgr := Nat.lt_of_lt_of_le hb4 (unhide HBL).size
            have k0 : wr.cell? ⟨ab, ao + i, none⟩ = some (.slice pa P pc) := ((unhide HBL).cell (p := ⟨ab, ao + i, none⟩) ha4).trans (unhide HCA)
            have r0 : wr.cell? ⟨bb, bo + i, none⟩ = some (.slice qa P qc) := ((unhide HBL).cell (p := ⟨bb, bo + i, none⟩) hb4).trans (unhide HCB)
            have hrP := unhide hP
            have hrQ := unhide hQ
            by_cases hjt : j < P
            · have hjl : j < p.length := by rw [unhide hP]; exact hjt
              have hjm : j < q.length := by rw [unhide hQ]; exact hjt
              obtain ⟨x, hx⟩ : ∃ x, p[j]? = some x := ⟨_, List.getElem?_eq_getElem hjl⟩
              obtain ⟨y, hy⟩ : ∃ y, q[j]? = some y := ⟨_, List.getElem?_eq_getElem hjm⟩
              obtain ⟨xb, xo, ex, hx4, c0, c1, c2, c3⟩ := (unhide RA).spot hx
              obtain ⟨yb, yo, ey, hy4, e0, e1, e2, e3⟩ := (unhide RB).spot hy
              subst ex
              subst ey
              have s0 : wr.cell? ⟨xb, xo + j * 4, none⟩ = _ := ((unhide HBL).cell (p := ⟨xb, xo + j * 4, none⟩) hx4).trans c0
              have s1 : wr.cell? ⟨xb, xo + j * 4 + 1, none⟩ = _ := ((unhide HBL).cell (p := ⟨xb, xo + j * 4 + 1, none⟩) hx4).trans c1
              have s2 : wr.cell? ⟨xb, xo + j * 4 + 2, none⟩ = _ := ((unhide HBL).cell (p := ⟨xb, xo + j * 4 + 2, none⟩) hx4).trans c2
              have s3 : wr.cell? ⟨xb, xo + j * 4 + 3, none⟩ = _ := ((unhide HBL).cell (p := ⟨xb, xo + j * 4 + 3, none⟩) hx4).trans c3
              have u0 : wr.cell? ⟨yb, yo + j * 4, none⟩ = _ := ((unhide HBL).cell (p := ⟨yb, yo + j * 4, none⟩) hy4).trans e0
              have u1 : wr.cell? ⟨yb, yo + j * 4 + 1, none⟩ = _ := ((unhide HBL).cell (p := ⟨yb, yo + j * 4 + 1, none⟩) hy4).trans e1
              have u2 : wr.cell? ⟨yb, yo + j * 4 + 2, none⟩ = _ := ((unhide HBL).cell (p := ⟨yb, yo + j * 4 + 2, none⟩) hy4).trans e2
              have u3 : wr.cell? ⟨yb, yo + j * 4 + 3, none⟩ = _ := ((unhide HBL).cell (p := ⟨yb, yo + j * 4 + 3, none⟩) hy4).trans e3
              have hxr := Nat.lt_of_lt_of_le hx4 (unhide HBL).size
              have hyr := Nat.lt_of_lt_of_le hy4 (unhide HBL).size
              have j0 : (0 : Int) ≤ (j : Int) := by omega
              have j1 : (j : Int) < (P : Int) := by omega
              have HXX := hide hx
              have HYY := hide hy
              clear c0 c1 c2 c3 e0 e1 e2 e3 hx hy hrP hrQ
              by_cases hxy : x = y
              · subst hxy
                have d2 := neqS0 x
                unfold spV at d2
                go_wp2_with fail
                go_quiet (fail)
                have HN : Hid (Bx2 w (.slice (some ⟨ab, ao, none⟩) L acap) (.slice (some ⟨bb, bo, none⟩) L bcap) (wr.drewN nq) ∧ ∀ k, k < j + 1 → p[k]? = q[k]?) := ⟨(unhide hBX).1.on (bl_drewN wr nq), fun k hk => by
                  by_cases hkj : k = j
                  · subst hkj; exact (unhide HXX).trans (unhide HYY).symm
                  · exact (unhide hBX).2 k (by omega)⟩
                clear hBX HBL HXX HYY
                go_wp2_with fail
                go_roundg (gk - 1)
                case measure => have := unhide hj; omega
                case rel => exact ⟨j + 1, by have := unhide hj; unfold Hid; omega, by go_num, HN⟩
              · have HN : Hid (¬ f = g) := fun e => hxy (by
                  have h1 := unhide HP
                  rw [e, unhide HQ] at h1
                  have h2 := Option.some.inj h1
                  have h3 := unhide HXX
                  rw [← h2, unhide HYY] at h3
                  exact (Option.some.inj h3).symm)
                have d2 := neqS hxy
                unfold spV at d2
                clear hxy HXX HYY
                go_wp2_with fail
                go_quiet (fail)
                have HX2 := hide ((unhide HBL).trans ((bl_drewN wr nq).mono (unhide HBL).size))
                clear hBX HBL
                go_wp2_with fail
                go_ret
                exact ⟨by rw [Dc_false (unhide HN)]; rfl, unhide HX2⟩
            · have hjP : j = P := by have := unhide hj; omega
              subst hjP
              have HN : Hid (Bx2 w (.slice (some ⟨ab, ao, none⟩) L acap) (.slice (some ⟨bb, bo, none⟩) L bcap) wr ∧ ∀ k, k < i + 1 → f[k]? = g[k]?) := ⟨(unhide hBX).1, fun k hk => by
                  by_cases hki : k = i
                  · subst hki
                    have hpq : p = q := List.ext_getElem? (fun k2 => by
                      by_cases hk2 : k2 < j
                      · exact (unhide hBX).2 k2 hk2
                      · rw [List.getElem?_eq_none (by rw [unhide hP]; omega), List.getElem?_eq_none (by rw [unhide hQ]; omega)])
                    rw [unhide HP, unhide HQ, hpq]
                  · exact (unhide HE) k (by omega)⟩
              clear hBX hrP hrQ
              go_wp2_with fail
              go_roundg (G0 - 1)
              case measure => have h1 := unhide hG0; have h2 := unhide hi; omega
              case rel => exact ⟨i + 1, by have h1 := unhide hG0; have h2 := unhide hi; unfold Hid; omega, by go_num, HN⟩

        · have HN : Hid (¬ f = g) := fun e => hPQ (by
            have h1 := unhide HP
            rw [e, unhide HQ] at h1
            have h2 := Option.some.inj h1
            rw [← unhide hP, ← unhide hQ, h2])
          have d1 : (((P : Nat) : Int) != (Q : Int)) = true := by simpa using fun e => hPQ (by omega)
          clear RA RB HP HQ hPQ
          go_wp2_with fail
          go_quiet (fail)
          have HX2 := hide ((unhide HBL).trans ((bl_drewN wr nq).mono (unhide HBL).size))
          clear hBX HBL
          go_wp2_with fail
          go_ret
          exact ⟨by rw [Dc_false (unhide HN)]; rfl, unhide HX2⟩
      · have hiL : i = L := by have := unhide hi; omega
        subst hiL
        have HE : Hid (f = g) := List.ext_getElem? (fun j => by
          by_cases hj : j < i
          · exact (unhide hBX).2 j hj
          · rw [List.getElem?_eq_none (by rw [unhide hL]; omega), List.getElem?_eq_none (by rw [unhide hM]; omega)])
        clear HA HB hBX
        go_wp2_with fail
        go_ret
        exact ⟨by rw [Dc_true (unhide HE)]; rfl, unhide HBL⟩
  · have HN : Hid (¬ f = g) := fun e => hlm (by rw [e])
    rw [Dc_false (unhide HN)]
    obtain ⟨L, hL⟩ : ∃ L, Hid (f.length = L) := ⟨_, hide rfl⟩
    obtain ⟨M, hM⟩ : ∃ M, Hid (g.length = M) := ⟨_, hide rfl⟩
    rw [unhide hL] at hlm ha1 ⊢
    rw [unhide hM] at hb1 hlm ⊢
    have HX := hide (Bx2.start w (.slice a L acap) (.slice b M bcap) 28 28)
    have d0 : (((L : Nat) : Int) != (M : Int)) = true := by simpa using fun e => hlm (by omega)
    clear HA HB HN hlm
    go_enter Try.func14, Try.ntmps14
    go_wp2_with fail
    go_ret
    exact ⟨rfl, (unhide HX).1⟩
end Go.Proofs.Ytjjfpokmpcpicaa
