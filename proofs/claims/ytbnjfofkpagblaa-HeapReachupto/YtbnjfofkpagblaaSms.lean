/-
  States held against each other.
-/
import Derived.Test.YtbnjfofkpagblaaSmr
namespace Go.Proofs.Ytbnjfofkpagblaa
open Go.RowKit
set_option linter.unusedVariables false
set_option linter.unusedSimpArgs false
set_option maxRecDepth 100000 in
set_option maxHeartbeats 3200000 in
theorem smOs_any {w : World} {u v : Value} {l m : List (Ob)} (hu : OsV w u l) (hv : OsV w v m) (hN : l.length ≤ 1048576) (hS : ∀ f ∈ l, f.its.length ≤ 1048576 ∧ f.keys.length ≤ 1048576) :
    Calls Try.prog 17 #[u, v] w fun e w' => e = .returned (.bool (Dc (l = m))) ∧ Below w.heap.size w w' := by
  obtain ⟨ua, uc, rfl, hul, hum⟩ := hu.shape
  obtain ⟨va, vc, rfl, hvl, hvm⟩ := hv.shape
  have HU := hide hu
  have HV := hide hv
  unfold maxLen at hum hvm
  have HS := hide hS
  clear hu hv hS
  by_cases hlm : l.length = m.length
  · obtain ⟨L, hL⟩ : ∃ L, Hid (l.length = L) := ⟨_, hide rfl⟩
    have hM : Hid (m.length = L) := by rw [← hlm]; exact hL
    rw [unhide hL] at hN hul HU ⊢
    rw [unhide hM] at HV hvl ⊢
    clear hlm
    have d0 : (((L : Nat) : Int) != (L : Int)) = false := by simp
    go_enter Try.func17, Try.ntmps17
    go_wp2_with fail
    go_loopg [5] L (fun gg t5 wr => ∃ (i : Nat), Hid (i + gg = L) ∧ t5 = .int .i64 (i : Int) ∧ Hid (Below w.heap.size w wr ∧ ∀ j, j < i → l[j]? = m[j]?))
    case atStart => exact ⟨0, by unfold Hid; omega, rfl, Below.refl _ _, fun j hj => by omega⟩
    case round =>
      obtain ⟨i, hi, rfl, hBX⟩ := hrel
      have hB := hide (unhide hBX).1
      by_cases hlt : i < L
      · have hil : i < l.length := by rw [unhide hL]; exact hlt
        have him : i < m.length := by rw [unhide hM]; exact hlt
        obtain ⟨p, hp⟩ : ∃ p, l[i]? = some p := ⟨_, List.getElem?_eq_getElem hil⟩
        obtain ⟨q, hq⟩ : ∃ q, m[i]? = some q := ⟨_, List.getElem?_eq_getElem him⟩
        obtain ⟨b, off, ia, ic, ka, kc, ea, hb, k0, k1, k2, k3, k4, k5, hx, hy, hsl, hsm, htl, htm⟩ := ((unhide HU).below (unhide hB) (Nat.le_refl _)).six hp
        obtain ⟨b', off', ia', ic', ka', kc', ea', hb', r0, r1, r2, r3, r4, r5, hx', hy', hsl', hsm', htl', htm'⟩ := ((unhide HV).below (unhide hB) (Nat.le_refl _)).six hq
        cases ea
        cases ea'
        have i0 : (0 : Int) ≤ (i : Int) := by omega
        have i1 : (i : Int) < (L : Int) := by omega
        have hdr := bl_drew wr
        have HC0 := smO_any ⟨_, _, rfl, hx.below hdr (Nat.le_refl _), hy.below hdr (Nat.le_refl _)⟩ ⟨_, _, rfl, hx'.below hdr (Nat.le_refl _), hy'.below hdr (Nat.le_refl _)⟩ (unhide HS p (List.mem_of_getElem? hp)).1 (unhide HS p (List.mem_of_getElem? hp)).2
        obtain ⟨d, hd⟩ : ∃ d, Hid (Dc (p = q) = d) := ⟨_, hide rfl⟩
        rw [unhide hd] at HC0
        have HC := hide HC0
        have HP := hide hp
        have HQ := hide hq
        clear hx hx' hp hq hdr HC0
        unfold maxLen at hsm hsm' htm htm'
        clear hy hy'

        cases d
        · have HN : Hid (¬ l = m) := fun e => not_Dc (unhide hd) (by have h1 := unhide HP; rw [e, unhide HQ] at h1; exact (Option.some.inj h1).symm)
          clear hBX HP HQ hd
          go_wp2_with fail
          go_region_held3 (fun w' => w'.cell? ⟨b, off + i * 6, none⟩ = some (.int .i64 p.kind) ∧ w'.cell? ⟨b, off + i * 6 + 1, none⟩ = some (.slice ia p.its.length ic) ∧ w'.cell? ⟨b, off + i * 6 + 2, none⟩ = some (.slice ka p.keys.length kc) ∧ w'.cell? ⟨b, off + i * 6 + 3, none⟩ = some (.int .i64 p.fn) ∧ w'.cell? ⟨b, off + i * 6 + 4, none⟩ = some (.int .i64 p.cap) ∧ w'.cell? ⟨b, off + i * 6 + 5, none⟩ = some (.bool p.shut) ∧ w'.cell? ⟨b', off' + i * 6, none⟩ = some (.int .i64 q.kind) ∧ w'.cell? ⟨b', off' + i * 6 + 1, none⟩ = some (.slice ia' q.its.length ic') ∧ w'.cell? ⟨b', off' + i * 6 + 2, none⟩ = some (.slice ka' q.keys.length kc') ∧ w'.cell? ⟨b', off' + i * 6 + 3, none⟩ = some (.int .i64 q.fn) ∧ w'.cell? ⟨b', off' + i * 6 + 4, none⟩ = some (.int .i64 q.cap) ∧ w'.cell? ⟨b', off' + i * 6 + 5, none⟩ = some (.bool q.shut)) (first | go_keep | exact ⟨(hb1.cell (p := ⟨b, _, none⟩) hb).trans k0, (hb1.cell (p := ⟨b, _, none⟩) hb).trans k1, (hb1.cell (p := ⟨b, _, none⟩) hb).trans k2, (hb1.cell (p := ⟨b, _, none⟩) hb).trans k3, (hb1.cell (p := ⟨b, _, none⟩) hb).trans k4, (hb1.cell (p := ⟨b, _, none⟩) hb).trans k5, (hb1.cell (p := ⟨b', _, none⟩) hb').trans r0, (hb1.cell (p := ⟨b', _, none⟩) hb').trans r1, (hb1.cell (p := ⟨b', _, none⟩) hb').trans r2, (hb1.cell (p := ⟨b', _, none⟩) hb').trans r3, (hb1.cell (p := ⟨b', _, none⟩) hb').trans r4, (hb1.cell (p := ⟨b', _, none⟩) hb').trans r5⟩) (first | (go_at_call 31; refine (unhide HC).mono ?_; rintro e w1 ⟨rfl, hb1⟩))
          have HB2 : Hid (Below w.heap.size w w1) := (unhide hB).trans (((bl_drew wr).mono (unhide hB).size).trans (hb1.mono (unhide hB).size))
          clear hb1 HC
          go_wp2_with fail
          go_ret
          exact ⟨by rw [Dc_false (unhide HN)]; rfl, unhide HB2⟩
        · have HE : Hid (∀ j, j < i + 1 → l[j]? = m[j]?) := fun j hj => by
            by_cases hji : j = i
            · subst hji; rw [unhide HP, unhide HQ, of_Dc (unhide hd)]
            · exact (unhide hBX).2 j (by omega)
          clear hBX HP HQ hd
          go_wp2_with fail
          go_region_held3 (fun w' => w'.cell? ⟨b, off + i * 6, none⟩ = some (.int .i64 p.kind) ∧ w'.cell? ⟨b, off + i * 6 + 1, none⟩ = some (.slice ia p.its.length ic) ∧ w'.cell? ⟨b, off + i * 6 + 2, none⟩ = some (.slice ka p.keys.length kc) ∧ w'.cell? ⟨b, off + i * 6 + 3, none⟩ = some (.int .i64 p.fn) ∧ w'.cell? ⟨b, off + i * 6 + 4, none⟩ = some (.int .i64 p.cap) ∧ w'.cell? ⟨b, off + i * 6 + 5, none⟩ = some (.bool p.shut) ∧ w'.cell? ⟨b', off' + i * 6, none⟩ = some (.int .i64 q.kind) ∧ w'.cell? ⟨b', off' + i * 6 + 1, none⟩ = some (.slice ia' q.its.length ic') ∧ w'.cell? ⟨b', off' + i * 6 + 2, none⟩ = some (.slice ka' q.keys.length kc') ∧ w'.cell? ⟨b', off' + i * 6 + 3, none⟩ = some (.int .i64 q.fn) ∧ w'.cell? ⟨b', off' + i * 6 + 4, none⟩ = some (.int .i64 q.cap) ∧ w'.cell? ⟨b', off' + i * 6 + 5, none⟩ = some (.bool q.shut)) (first | go_keep | exact ⟨(hb1.cell (p := ⟨b, _, none⟩) hb).trans k0, (hb1.cell (p := ⟨b, _, none⟩) hb).trans k1, (hb1.cell (p := ⟨b, _, none⟩) hb).trans k2, (hb1.cell (p := ⟨b, _, none⟩) hb).trans k3, (hb1.cell (p := ⟨b, _, none⟩) hb).trans k4, (hb1.cell (p := ⟨b, _, none⟩) hb).trans k5, (hb1.cell (p := ⟨b', _, none⟩) hb').trans r0, (hb1.cell (p := ⟨b', _, none⟩) hb').trans r1, (hb1.cell (p := ⟨b', _, none⟩) hb').trans r2, (hb1.cell (p := ⟨b', _, none⟩) hb').trans r3, (hb1.cell (p := ⟨b', _, none⟩) hb').trans r4, (hb1.cell (p := ⟨b', _, none⟩) hb').trans r5⟩) (first | (go_at_call 31; refine (unhide HC).mono ?_; rintro e w1 ⟨rfl, hb1⟩))
          have HB2 : Hid (Below w.heap.size w w1) := (unhide hB).trans (((bl_drew wr).mono (unhide hB).size).trans (hb1.mono (unhide hB).size))
          clear hb1 HC
          go_wp2_with fail
          go_roundg (gk - 1)
          case measure => have := unhide hi; omega
          case rel => exact ⟨i + 1, by have := unhide hi; unfold Hid; omega, by go_num, unhide HB2, unhide HE⟩
      · have hiL : i = L := by have := unhide hi; omega
        subst hiL
        have HE : Hid (l = m) := List.ext_getElem? (fun j => by
          by_cases hj : j < i
          · exact (unhide hBX).2 j hj
          · rw [List.getElem?_eq_none (by rw [unhide hL]; omega), List.getElem?_eq_none (by rw [unhide hM]; omega)])
        clear HU HV hBX
        go_wp2_with fail
        go_ret
        exact ⟨by rw [Dc_true (unhide HE)]; rfl, unhide hB⟩
  · have HN : Hid (¬ l = m) := fun e => hlm (by rw [e])
    rw [Dc_false (unhide HN)]
    obtain ⟨L, hL⟩ : ∃ L, Hid (l.length = L) := ⟨_, hide rfl⟩
    obtain ⟨M, hM⟩ : ∃ M, Hid (m.length = M) := ⟨_, hide rfl⟩
    rw [unhide hL] at hN hlm hul ⊢
    rw [unhide hM] at hvl hlm ⊢
    have d0 : (((L : Nat) : Int) != (M : Int)) = true := by simpa using fun e => hlm (by omega)
    clear HU HV HN hlm
    go_enter Try.func17, Try.ntmps17
    go_wp2_with fail
    go_ret
    exact ⟨rfl, Below.refl _ _⟩

set_option linter.unusedVariables false
set_option linter.unusedSimpArgs false
end Go.Proofs.Ytbnjfofkpagblaa
