/-
  Frames, objects, fibers, states held against each other.
-/
import Derived.Test.YtadgiccfjppnfaaSmr
namespace Go.Proofs.Ytadgiccfjppnfaa
open Go.RowKit
set_option linter.unusedVariables false
set_option linter.unusedSimpArgs false
set_option maxRecDepth 100000 in
set_option maxHeartbeats 3200000 in
theorem smMs_any {w : World} {u v : Value} {l m : List (Fm)} (hu : FsV w u l) (hv : FsV w v m) (hN : l.length ≤ 1048576) (hS : ∀ f ∈ l, f.sl.length ≤ 1048576) :
    Calls Try.prog 69 #[u, v] w fun e w' => e = .returned (.bool (Dc (l = m))) ∧ Below w.heap.size w w' := by
  obtain ⟨ua, uc, rfl, hul, hum⟩ := hu.shape
  obtain ⟨va, vc, rfl, hvl, hvm⟩ := hv.shape
  have HU := hide hu
  have HV := hide hv
  unfold maxLen at hum hvm
  have HS := hide hS
  clear hu hv hS
  by_cases hlm : l.length = m.length
  · obtain ⟨L, hL⟩ : ∃ L, Hid (l.length = L) := ⟨_, hide rfl⟩
    have hM : Hid (m.length = L) := by rw [← hlm]; exact hL
    rw [unhide hL] at hN hul HU ⊢
    rw [unhide hM] at HV hvl ⊢
    clear hlm
    have d0 : (((L : Nat) : Int) != (L : Int)) = false := by simp
    go_enter Try.func69, Try.ntmps69
    go_wp2_with fail
    go_loopg [5] L (fun gg t5 wr => ∃ (i : Nat), Hid (i + gg = L) ∧ t5 = .int .i64 (i : Int) ∧ Hid (Below w.heap.size w wr ∧ ∀ j, j < i → l[j]? = m[j]?))
    case atStart => exact ⟨0, by unfold Hid; omega, rfl, Below.refl _ _, fun j hj => by omega⟩
    case round =>
      obtain ⟨i, hi, rfl, hBX⟩ := hrel
      have hB := hide (unhide hBX).1
      by_cases hlt : i < L
      · have hil : i < l.length := by rw [unhide hL]; exact hlt
        have him : i < m.length := by rw [unhide hM]; exact hlt
        obtain ⟨p, hp⟩ : ∃ p, l[i]? = some p := ⟨_, List.getElem?_eq_getElem hil⟩
        obtain ⟨q, hq⟩ : ∃ q, m[i]? = some q := ⟨_, List.getElem?_eq_getElem him⟩
        obtain ⟨b, off, sa, sc, ea, hb, k0, k1, k2, hx, hsl, hsm⟩ := ((unhide HU).below (unhide hB) (Nat.le_refl _)).three hp
        obtain ⟨b', off', sa', sc', ea', hb', r0, r1, r2, hx', hsl', hsm'⟩ := ((unhide HV).below (unhide hB) (Nat.le_refl _)).three hq
        cases ea
        cases ea'
        have i0 : (0 : Int) ≤ (i : Int) := by omega
        have i1 : (i : Int) < (L : Int) := by omega
        have hdr := bl_drew wr
        have HC0 := smM_any (FmA.of (hx.below hdr (Nat.le_refl _))) (FmA.of (hx'.below hdr (Nat.le_refl _))) (unhide HS p (List.mem_of_getElem? hp))
        obtain ⟨d, hd⟩ : ∃ d, Hid (Dc (p = q) = d) := ⟨_, hide rfl⟩
        rw [unhide hd] at HC0
        have HC := hide HC0
        have HP := hide hp
        have HQ := hide hq
        clear hx hx' hp hq hdr HC0
        unfold maxLen at hsm hsm'

        cases d
        · have HN : Hid (¬ l = m) := fun e => not_Dc (unhide hd) (by have h1 := unhide HP; rw [e, unhide HQ] at h1; exact (Option.some.inj h1).symm)
          clear hBX HP HQ hd
          go_wp2_with fail
          go_region_held3 (fun w' => w'.cell? ⟨b, off + i * 3, none⟩ = some (.int .i64 p.fn) ∧ w'.cell? ⟨b, off + i * 3 + 1, none⟩ = some (.int .i64 p.pc) ∧ w'.cell? ⟨b, off + i * 3 + 2, none⟩ = some (.slice sa p.sl.length sc) ∧ w'.cell? ⟨b', off' + i * 3, none⟩ = some (.int .i64 q.fn) ∧ w'.cell? ⟨b', off' + i * 3 + 1, none⟩ = some (.int .i64 q.pc) ∧ w'.cell? ⟨b', off' + i * 3 + 2, none⟩ = some (.slice sa' q.sl.length sc')) (first | go_keep | exact ⟨(hb1.cell (p := ⟨b, _, none⟩) hb).trans k0, (hb1.cell (p := ⟨b, _, none⟩) hb).trans k1, (hb1.cell (p := ⟨b, _, none⟩) hb).trans k2, (hb1.cell (p := ⟨b', _, none⟩) hb').trans r0, (hb1.cell (p := ⟨b', _, none⟩) hb').trans r1, (hb1.cell (p := ⟨b', _, none⟩) hb').trans r2⟩) (first | (go_at_call 85; refine (unhide HC).mono ?_; rintro e w1 ⟨rfl, hb1⟩))
          have HB2 : Hid (Below w.heap.size w w1) := (unhide hB).trans (((bl_drew wr).mono (unhide hB).size).trans (hb1.mono (unhide hB).size))
          clear hb1 HC
          go_wp2_with fail
          go_ret
          exact ⟨by rw [Dc_false (unhide HN)]; rfl, unhide HB2⟩
        · have HE : Hid (∀ j, j < i + 1 → l[j]? = m[j]?) := fun j hj => by
            by_cases hji : j = i
            · subst hji; rw [unhide HP, unhide HQ, of_Dc (unhide hd)]
            · exact (unhide hBX).2 j (by omega)
          clear hBX HP HQ hd
          go_wp2_with fail
          go_region_held3 (fun w' => w'.cell? ⟨b, off + i * 3, none⟩ = some (.int .i64 p.fn) ∧ w'.cell? ⟨b, off + i * 3 + 1, none⟩ = some (.int .i64 p.pc) ∧ w'.cell? ⟨b, off + i * 3 + 2, none⟩ = some (.slice sa p.sl.length sc) ∧ w'.cell? ⟨b', off' + i * 3, none⟩ = some (.int .i64 q.fn) ∧ w'.cell? ⟨b', off' + i * 3 + 1, none⟩ = some (.int .i64 q.pc) ∧ w'.cell? ⟨b', off' + i * 3 + 2, none⟩ = some (.slice sa' q.sl.length sc')) (first | go_keep | exact ⟨(hb1.cell (p := ⟨b, _, none⟩) hb).trans k0, (hb1.cell (p := ⟨b, _, none⟩) hb).trans k1, (hb1.cell (p := ⟨b, _, none⟩) hb).trans k2, (hb1.cell (p := ⟨b', _, none⟩) hb').trans r0, (hb1.cell (p := ⟨b', _, none⟩) hb').trans r1, (hb1.cell (p := ⟨b', _, none⟩) hb').trans r2⟩) (first | (go_at_call 85; refine (unhide HC).mono ?_; rintro e w1 ⟨rfl, hb1⟩))
          have HB2 : Hid (Below w.heap.size w w1) := (unhide hB).trans (((bl_drew wr).mono (unhide hB).size).trans (hb1.mono (unhide hB).size))
          clear hb1 HC
          go_wp2_with fail
          go_roundg (gk - 1)
          case measure => have := unhide hi; omega
          case rel => exact ⟨i + 1, by have := unhide hi; unfold Hid; omega, by go_num, unhide HB2, unhide HE⟩
      · have hiL : i = L := by have := unhide hi; omega
        subst hiL
        have HE : Hid (l = m) := List.ext_getElem? (fun j => by
          by_cases hj : j < i
          · exact (unhide hBX).2 j hj
          · rw [List.getElem?_eq_none (by rw [unhide hL]; omega), List.getElem?_eq_none (by rw [unhide hM]; omega)])
        clear HU HV hBX
        go_wp2_with fail
        go_ret
        exact ⟨by rw [Dc_true (unhide HE)]; rfl, unhide hB⟩
  · have HN : Hid (¬ l = m) := fun e => hlm (by rw [e])
    rw [Dc_false (unhide HN)]
    obtain ⟨L, hL⟩ : ∃ L, Hid (l.length = L) := ⟨_, hide rfl⟩
    obtain ⟨M, hM⟩ : ∃ M, Hid (m.length = M) := ⟨_, hide rfl⟩
    rw [unhide hL] at hN hlm hul ⊢
    rw [unhide hM] at hvl hlm ⊢
    have d0 : (((L : Nat) : Int) != (M : Int)) = true := by simpa using fun e => hlm (by omega)
    clear HU HV HN hlm
    go_enter Try.func69, Try.ntmps69
    go_wp2_with fail
    go_ret
    exact ⟨rfl, Below.refl _ _⟩
set_option maxRecDepth 100000 in
set_option maxHeartbeats 3200000 in
theorem smBs_any {w : World} {u v : Value} {l m : List (List Fm)} (hu : BsV w u l) (hv : BsV w v m) (hN : l.length ≤ 1048576) (hS : ∀ f ∈ l, f.length ≤ 1048576 ∧ ∀ x ∈ f, x.sl.length ≤ 1048576) :
    Calls Try.prog 35 #[u, v] w fun e w' => e = .returned (.bool (Dc (l = m))) ∧ Below w.heap.size w w' := by
  obtain ⟨ua, uc, rfl, hul, hum⟩ := hu.shape
  obtain ⟨va, vc, rfl, hvl, hvm⟩ := hv.shape
  have HU := hide hu
  have HV := hide hv
  unfold maxLen at hum hvm
  have HS := hide hS
  clear hu hv hS
  by_cases hlm : l.length = m.length
  · obtain ⟨L, hL⟩ : ∃ L, Hid (l.length = L) := ⟨_, hide rfl⟩
    have hM : Hid (m.length = L) := by rw [← hlm]; exact hL
    rw [unhide hL] at hN hul HU ⊢
    rw [unhide hM] at HV hvl ⊢
    clear hlm
    have d0 : (((L : Nat) : Int) != (L : Int)) = false := by simp
    go_enter Try.func35, Try.ntmps35
    go_wp2_with fail
    go_loopg [5] L (fun gg t5 wr => ∃ (i : Nat), Hid (i + gg = L) ∧ t5 = .int .i64 (i : Int) ∧ Hid (Below w.heap.size w wr ∧ ∀ j, j < i → l[j]? = m[j]?))
    case atStart => exact ⟨0, by unfold Hid; omega, rfl, Below.refl _ _, fun j hj => by omega⟩
    case round =>
      obtain ⟨i, hi, rfl, hBX⟩ := hrel
      have hB := hide (unhide hBX).1
      by_cases hlt : i < L
      · have hil : i < l.length := by rw [unhide hL]; exact hlt
        have him : i < m.length := by rw [unhide hM]; exact hlt
        obtain ⟨p, hp⟩ : ∃ p, l[i]? = some p := ⟨_, List.getElem?_eq_getElem hil⟩
        obtain ⟨q, hq⟩ : ∃ q, m[i]? = some q := ⟨_, List.getElem?_eq_getElem him⟩
        obtain ⟨b, off, fa, fc, ea, hb, k0, hx, hsl, hsm⟩ := ((unhide HU).below (unhide hB) (Nat.le_refl _)).one hp
        obtain ⟨b', off', fa', fc', ea', hb', r0, hx', hsl', hsm'⟩ := ((unhide HV).below (unhide hB) (Nat.le_refl _)).one hq
        cases ea
        cases ea'
        have i0 : (0 : Int) ≤ (i : Int) := by omega
        have i1 : (i : Int) < (L : Int) := by omega
        have hdr := bl_drew wr
        have HC0 := smMs_any (hx.below hdr (Nat.le_refl _)) (hx'.below hdr (Nat.le_refl _)) (unhide HS p (List.mem_of_getElem? hp)).1 (unhide HS p (List.mem_of_getElem? hp)).2
        obtain ⟨d, hd⟩ : ∃ d, Hid (Dc (p = q) = d) := ⟨_, hide rfl⟩
        rw [unhide hd] at HC0
        have HC := hide HC0
        have HP := hide hp
        have HQ := hide hq
        clear hx hx' hp hq hdr HC0
        unfold maxLen at hsm hsm'

        cases d
        · have HN : Hid (¬ l = m) := fun e => not_Dc (unhide hd) (by have h1 := unhide HP; rw [e, unhide HQ] at h1; exact (Option.some.inj h1).symm)
          clear hBX HP HQ hd
          go_wp2_with fail
          go_region_held3 (fun w' => w'.cell? ⟨b, off + i, none⟩ = some (.slice fa p.length fc) ∧ w'.cell? ⟨b', off' + i, none⟩ = some (.slice fa' q.length fc')) (first | go_keep | exact ⟨(hb1.cell (p := ⟨b, _, none⟩) hb).trans k0, (hb1.cell (p := ⟨b', _, none⟩) hb').trans r0⟩) (first | (go_at_call 69; refine (unhide HC).mono ?_; rintro e w1 ⟨rfl, hb1⟩))
          have HB2 : Hid (Below w.heap.size w w1) := (unhide hB).trans (((bl_drew wr).mono (unhide hB).size).trans (hb1.mono (unhide hB).size))
          clear hb1 HC
          go_wp2_with fail
          go_ret
          exact ⟨by rw [Dc_false (unhide HN)]; rfl, unhide HB2⟩
        · have HE : Hid (∀ j, j < i + 1 → l[j]? = m[j]?) := fun j hj => by
            by_cases hji : j = i
            · subst hji; rw [unhide HP, unhide HQ, of_Dc (unhide hd)]
            · exact (unhide hBX).2 j (by omega)
          clear hBX HP HQ hd
          go_wp2_with fail
          go_region_held3 (fun w' => w'.cell? ⟨b, off + i, none⟩ = some (.slice fa p.length fc) ∧ w'.cell? ⟨b', off' + i, none⟩ = some (.slice fa' q.length fc')) (first | go_keep | exact ⟨(hb1.cell (p := ⟨b, _, none⟩) hb).trans k0, (hb1.cell (p := ⟨b', _, none⟩) hb').trans r0⟩) (first | (go_at_call 69; refine (unhide HC).mono ?_; rintro e w1 ⟨rfl, hb1⟩))
          have HB2 : Hid (Below w.heap.size w w1) := (unhide hB).trans (((bl_drew wr).mono (unhide hB).size).trans (hb1.mono (unhide hB).size))
          clear hb1 HC
          go_wp2_with fail
          go_roundg (gk - 1)
          case measure => have := unhide hi; omega
          case rel => exact ⟨i + 1, by have := unhide hi; unfold Hid; omega, by go_num, unhide HB2, unhide HE⟩
      · have hiL : i = L := by have := unhide hi; omega
        subst hiL
        have HE : Hid (l = m) := List.ext_getElem? (fun j => by
          by_cases hj : j < i
          · exact (unhide hBX).2 j hj
          · rw [List.getElem?_eq_none (by rw [unhide hL]; omega), List.getElem?_eq_none (by rw [unhide hM]; omega)])
        clear HU HV hBX
        go_wp2_with fail
        go_ret
        exact ⟨by rw [Dc_true (unhide HE)]; rfl, unhide hB⟩
  · have HN : Hid (¬ l = m) := fun e => hlm (by rw [e])
    rw [Dc_false (unhide HN)]
    obtain ⟨L, hL⟩ : ∃ L, Hid (l.length = L) := ⟨_, hide rfl⟩
    obtain ⟨M, hM⟩ : ∃ M, Hid (m.length = M) := ⟨_, hide rfl⟩
    rw [unhide hL] at hN hlm hul ⊢
    rw [unhide hM] at hvl hlm ⊢
    have d0 : (((L : Nat) : Int) != (M : Int)) = true := by simpa using fun e => hlm (by omega)
    clear HU HV HN hlm
    go_enter Try.func35, Try.ntmps35
    go_wp2_with fail
    go_ret
    exact ⟨rfl, Below.refl _ _⟩
end Go.Proofs.Ytadgiccfjppnfaa
