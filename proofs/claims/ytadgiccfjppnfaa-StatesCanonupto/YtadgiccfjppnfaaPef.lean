/-
  slices.EqualFunc of the program; sameFiber.
-/
import Derived.Test.YtadgiccfjppnfaaPeq
namespace Go.Proofs.Ytadgiccfjppnfaa
open Go.RowKit
set_option linter.unusedVariables false
set_option linter.unusedSimpArgs false
set_option maxRecDepth 100000 in
set_option maxHeartbeats 3200000 in
theorem eqMs_any {w : World} {u v : Value} {l m : List (Fm)} (hu : FsV w u l) (hv : FsV w v m) (hN : l.length ≤ 1048576) (hS : ∀ f ∈ l, f.sl.length ≤ 1048576) :
    Calls Try.prog 71 #[u, v, .func (.func 72) #[] #[]] w fun e w' => e = .returned (.bool (Dc (l = m))) ∧ Below w.heap.size w w' := by
  obtain ⟨ua, uc, rfl, hul, hum⟩ := hu.shape
  obtain ⟨va, vc, rfl, hvl, hvm⟩ := hv.shape
  have HU := hide hu
  have HV := hide hv
  unfold maxLen at hum hvm
  have HS := hide hS
  clear hu hv hS
  by_cases hlm : l.length = m.length
  · obtain ⟨L, hL⟩ : ∃ L, Hid (l.length = L) := ⟨_, hide rfl⟩
    have hM : Hid (m.length = L) := by rw [← hlm]; exact hL
    rw [unhide hL] at hN hul HU ⊢
    rw [unhide hM] at HV hvl ⊢
    clear hlm
    have d0 : (((L : Nat) : Int) != (L : Int)) = false := by simp
    go_enter Try.func71, Try.ntmps71
    go_wp2_with fail
    go_loopg [17] L (fun gg t17 wr => ∃ (i : Nat), Hid (i + gg = L) ∧ t17 = .int .i64 (i : Int) ∧ Hid (Below w.heap.size w wr ∧ ∀ j, j < i → l[j]? = m[j]?))
    case atStart => exact ⟨0, by unfold Hid; omega, rfl, Below.refl _ _, fun j hj => by omega⟩
    case round =>
      obtain ⟨i, hi, rfl, hBX⟩ := hrel
      have hB := hide (unhide hBX).1
      by_cases hlt : i < L
      · have hil : i < l.length := by rw [unhide hL]; exact hlt
        have him : i < m.length := by rw [unhide hM]; exact hlt
        obtain ⟨p, hp⟩ : ∃ p, l[i]? = some p := ⟨_, List.getElem?_eq_getElem hil⟩
        obtain ⟨q, hq⟩ : ∃ q, m[i]? = some q := ⟨_, List.getElem?_eq_getElem him⟩
        obtain ⟨b, off, sa, sc, ea, hb, k0, k1, k2, hx, hsl, hsm⟩ := ((unhide HU).below (unhide hB) (Nat.le_refl _)).three hp
        obtain ⟨b', off', sa', sc', ea', hb', r0, r1, r2, hx', hsl', hsm'⟩ := ((unhide HV).below (unhide hB) (Nat.le_refl _)).three hq
        cases ea
        cases ea'
        have i0 : (0 : Int) ≤ (i : Int) := by omega
        have i1 : (i : Int) < (L : Int) := by omega
        have HBT := hide (bl_two wr)
        have HC0 := fun o1 o2 => eqM_any (w := (wr.alloc o1).alloc o2) ⟨_, rfl, hx.below (bl_two wr o1 o2) (Nat.le_refl _)⟩ ⟨_, rfl, hx'.below (bl_two wr o1 o2) (Nat.le_refl _)⟩ (unhide HS p (List.mem_of_getElem? hp))
        obtain ⟨d, hd⟩ : ∃ d, Hid (Dc (p = q) = d) := ⟨_, hide rfl⟩
        rw [unhide hd] at HC0
        have HC := hide HC0
        have HP := hide hp
        have HQ := hide hq
        clear hx hx' hp hq HC0
        cases d
        · have HN : Hid (¬ l = m) := fun e => not_Dc (unhide hd) (by have h1 := unhide HP; rw [e, unhide HQ] at h1; exact (Option.some.inj h1).symm)
          clear hBX HP HQ hd
          go_wp2_with fail
          refine (unhide HC _ _).mono ?_
          rintro e w1 ⟨rfl, hb1⟩
          have HB2 : Hid (Below w.heap.size w w1) := (unhide hB).trans ((bl_past (unhide HBT _ _) hb1).mono (unhide hB).size)
          clear hb1 HC
          go_wp2_with fail
          go_ret
          exact ⟨by rw [Dc_false (unhide HN)]; rfl, unhide HB2⟩
        · have HE : Hid (∀ j, j < i + 1 → l[j]? = m[j]?) := fun j hj => by
            by_cases hji : j = i
            · subst hji; rw [unhide HP, unhide HQ, of_Dc (unhide hd)]
            · exact (unhide hBX).2 j (by omega)
          clear hBX HP HQ hd
          go_wp2_with fail
          refine (unhide HC _ _).mono ?_
          rintro e w1 ⟨rfl, hb1⟩
          have HB2 : Hid (Below w.heap.size w w1) := (unhide hB).trans ((bl_past (unhide HBT _ _) hb1).mono (unhide hB).size)
          clear hb1 HC
          go_wp2_with fail
          go_roundg (gk - 1)
          case measure => have := unhide hi; omega
          case rel => exact ⟨i + 1, by have := unhide hi; unfold Hid; omega, by go_num, unhide HB2, unhide HE⟩
      · have hiL : i = L := by have := unhide hi; omega
        subst hiL
        have HE : Hid (l = m) := List.ext_getElem? (fun j => by
          by_cases hj : j < i
          · exact (unhide hBX).2 j hj
          · rw [List.getElem?_eq_none (by rw [unhide hL]; omega), List.getElem?_eq_none (by rw [unhide hM]; omega)])
        clear HU HV hBX
        go_wp2_with fail
        go_ret
        exact ⟨by rw [Dc_true (unhide HE)]; rfl, unhide hB⟩
  · have HN : Hid (¬ l = m) := fun e => hlm (by rw [e])
    rw [Dc_false (unhide HN)]
    obtain ⟨L, hL⟩ : ∃ L, Hid (l.length = L) := ⟨_, hide rfl⟩
    obtain ⟨M, hM⟩ : ∃ M, Hid (m.length = M) := ⟨_, hide rfl⟩
    rw [unhide hL] at hN hlm hul ⊢
    rw [unhide hM] at hvl hlm ⊢
    have d0 : (((L : Nat) : Int) != (M : Int)) = true := by simpa using fun e => hlm (by omega)
    clear HU HV HN hlm
    go_enter Try.func71, Try.ntmps71
    go_wp2_with fail
    go_ret
    exact ⟨rfl, Below.refl _ _⟩
set_option maxRecDepth 100000 in
set_option maxHeartbeats 3200000 in
theorem eqB_any {w : World} {fa ga : Option Addr} {fc gc : Nat} {l m : List Fm} (hu : FsV w (.slice fa l.length fc) l) (hv : FsV w (.slice ga m.length gc) m) (hN : l.length ≤ 1048576) (hS : ∀ f ∈ l, f.sl.length ≤ 1048576) :
    Calls Try.prog 43 #[.agg #[.slice fa l.length fc], .agg #[.slice ga m.length gc]] w fun e w' => e = .returned (.bool (Dc (l = m))) ∧ Below w.heap.size w w' := by
  have HB := hide (bl_two w)
  have HC := hide (fun o1 o2 => eqMs_any (hu.below (bl_two w o1 o2) (Nat.le_refl _)) (hv.below (bl_two w o1 o2) (Nat.le_refl _)) hN hS)
  obtain ⟨d, hd⟩ : ∃ d, Hid (Dc (l = m) = d) := ⟨_, hide rfl⟩
  obtain ⟨L, hL⟩ : ∃ n, Hid (l.length = n) := ⟨_, hide rfl⟩
  obtain ⟨M, hM⟩ : ∃ n, Hid (m.length = n) := ⟨_, hide rfl⟩
  rw [unhide hd, unhide hL, unhide hM] at HC
  rw [unhide hd, unhide hL, unhide hM]
  clear hu hv hS hN
  go_enter Try.func43, Try.ntmps43
  go_wp2_with fail
  refine (unhide HC _ _).mono ?_
  rintro e w1 ⟨rfl, hb1⟩
  have HB1 := hide hb1
  clear hb1 HC
  go_wp2_with fail
  go_ret
  exact ⟨rfl, bl_past (unhide HB _ _) (unhide HB1)⟩
set_option maxRecDepth 100000 in
set_option maxHeartbeats 3200000 in
theorem eqBs_any {w : World} {u v : Value} {l m : List (List Fm)} (hu : BsV w u l) (hv : BsV w v m) (hN : l.length ≤ 1048576) (hS : ∀ b ∈ l, b.length ≤ 1048576 ∧ ∀ f ∈ b, f.sl.length ≤ 1048576) :
    Calls Try.prog 42 #[u, v, .func (.func 43) #[] #[]] w fun e w' => e = .returned (.bool (Dc (l = m))) ∧ Below w.heap.size w w' := by
  obtain ⟨ua, uc, rfl, hul, hum⟩ := hu.shape
  obtain ⟨va, vc, rfl, hvl, hvm⟩ := hv.shape
  have HU := hide hu
  have HV := hide hv
  unfold maxLen at hum hvm
  have HS := hide hS
  clear hu hv hS
  by_cases hlm : l.length = m.length
  · obtain ⟨L, hL⟩ : ∃ L, Hid (l.length = L) := ⟨_, hide rfl⟩
    have hM : Hid (m.length = L) := by rw [← hlm]; exact hL
    rw [unhide hL] at hN hul HU ⊢
    rw [unhide hM] at HV hvl ⊢
    clear hlm
    have d0 : (((L : Nat) : Int) != (L : Int)) = false := by simp
    go_enter Try.func42, Try.ntmps42
    go_wp2_with fail
    go_loopg [17] L (fun gg t17 wr => ∃ (i : Nat), Hid (i + gg = L) ∧ t17 = .int .i64 (i : Int) ∧ Hid (Below w.heap.size w wr ∧ ∀ j, j < i → l[j]? = m[j]?))
    case atStart => exact ⟨0, by unfold Hid; omega, rfl, Below.refl _ _, fun j hj => by omega⟩
    case round =>
      obtain ⟨i, hi, rfl, hBX⟩ := hrel
      have hB := hide (unhide hBX).1
      by_cases hlt : i < L
      · have hil : i < l.length := by rw [unhide hL]; exact hlt
        have him : i < m.length := by rw [unhide hM]; exact hlt
        obtain ⟨p, hp⟩ : ∃ p, l[i]? = some p := ⟨_, List.getElem?_eq_getElem hil⟩
        obtain ⟨q, hq⟩ : ∃ q, m[i]? = some q := ⟨_, List.getElem?_eq_getElem him⟩
        obtain ⟨b, off, sa, sc, ea, hb, k0, hx, hsl, hsm⟩ := ((unhide HU).below (unhide hB) (Nat.le_refl _)).one hp
        obtain ⟨b', off', sa', sc', ea', hb', r0, hx', hsl', hsm'⟩ := ((unhide HV).below (unhide hB) (Nat.le_refl _)).one hq
        cases ea
        cases ea'
        have i0 : (0 : Int) ≤ (i : Int) := by omega
        have i1 : (i : Int) < (L : Int) := by omega
        have HBT := hide (bl_two wr)
        have HC0 := fun o1 o2 => eqB_any (w := (wr.alloc o1).alloc o2) (hx.below (bl_two wr o1 o2) (Nat.le_refl _)) (hx'.below (bl_two wr o1 o2) (Nat.le_refl _)) (unhide HS p (List.mem_of_getElem? hp)).1 (unhide HS p (List.mem_of_getElem? hp)).2
        obtain ⟨d, hd⟩ : ∃ d, Hid (Dc (p = q) = d) := ⟨_, hide rfl⟩
        rw [unhide hd] at HC0
        have HC := hide HC0
        have HP := hide hp
        have HQ := hide hq
        clear hx hx' hp hq HC0
        cases d
        · have HN : Hid (¬ l = m) := fun e => not_Dc (unhide hd) (by have h1 := unhide HP; rw [e, unhide HQ] at h1; exact (Option.some.inj h1).symm)
          clear hBX HP HQ hd
          go_wp2_with fail
          refine (unhide HC _ _).mono ?_
          rintro e w1 ⟨rfl, hb1⟩
          have HB2 : Hid (Below w.heap.size w w1) := (unhide hB).trans ((bl_past (unhide HBT _ _) hb1).mono (unhide hB).size)
          clear hb1 HC
          go_wp2_with fail
          go_ret
          exact ⟨by rw [Dc_false (unhide HN)]; rfl, unhide HB2⟩
        · have HE : Hid (∀ j, j < i + 1 → l[j]? = m[j]?) := fun j hj => by
            by_cases hji : j = i
            · subst hji; rw [unhide HP, unhide HQ, of_Dc (unhide hd)]
            · exact (unhide hBX).2 j (by omega)
          clear hBX HP HQ hd
          go_wp2_with fail
          refine (unhide HC _ _).mono ?_
          rintro e w1 ⟨rfl, hb1⟩
          have HB2 : Hid (Below w.heap.size w w1) := (unhide hB).trans ((bl_past (unhide HBT _ _) hb1).mono (unhide hB).size)
          clear hb1 HC
          go_wp2_with fail
          go_roundg (gk - 1)
          case measure => have := unhide hi; omega
          case rel => exact ⟨i + 1, by have := unhide hi; unfold Hid; omega, by go_num, unhide HB2, unhide HE⟩
      · have hiL : i = L := by have := unhide hi; omega
        subst hiL
        have HE : Hid (l = m) := List.ext_getElem? (fun j => by
          by_cases hj : j < i
          · exact (unhide hBX).2 j hj
          · rw [List.getElem?_eq_none (by rw [unhide hL]; omega), List.getElem?_eq_none (by rw [unhide hM]; omega)])
        clear HU HV hBX
        go_wp2_with fail
        go_ret
        exact ⟨by rw [Dc_true (unhide HE)]; rfl, unhide hB⟩
  · have HN : Hid (¬ l = m) := fun e => hlm (by rw [e])
    rw [Dc_false (unhide HN)]
    obtain ⟨L, hL⟩ : ∃ L, Hid (l.length = L) := ⟨_, hide rfl⟩
    obtain ⟨M, hM⟩ : ∃ M, Hid (m.length = M) := ⟨_, hide rfl⟩
    rw [unhide hL] at hN hlm hul ⊢
    rw [unhide hM] at hvl hlm ⊢
    have d0 : (((L : Nat) : Int) != (M : Int)) = true := by simpa using fun e => hlm (by omega)
    clear HU HV HN hlm
    go_enter Try.func42, Try.ntmps42
    go_wp2_with fail
    go_ret
    exact ⟨rfl, Below.refl _ _⟩
set_option maxRecDepth 100000 in
set_option maxHeartbeats 3200000 in
theorem eqOs_any {w : World} {u v : Value} {l m : List (Ob)} (hu : OsV w u l) (hv : OsV w v m) (hN : l.length ≤ 1048576) (hS : ∀ f ∈ l, f.its.length ≤ 1048576 ∧ f.keys.length ≤ 1048576) :
    Calls Try.prog 45 #[u, v, .func (.func 46) #[] #[]] w fun e w' => e = .returned (.bool (Dc (l = m))) ∧ Below w.heap.size w w' := by
  obtain ⟨ua, uc, rfl, hul, hum⟩ := hu.shape
  obtain ⟨va, vc, rfl, hvl, hvm⟩ := hv.shape
  have HU := hide hu
  have HV := hide hv
  unfold maxLen at hum hvm
  have HS := hide hS
  clear hu hv hS
  by_cases hlm : l.length = m.length
  · obtain ⟨L, hL⟩ : ∃ L, Hid (l.length = L) := ⟨_, hide rfl⟩
    have hM : Hid (m.length = L) := by rw [← hlm]; exact hL
    rw [unhide hL] at hN hul HU ⊢
    rw [unhide hM] at HV hvl ⊢
    clear hlm
    have d0 : (((L : Nat) : Int) != (L : Int)) = false := by simp
    go_enter Try.func45, Try.ntmps45
    go_wp2_with fail
    go_loopg [17] L (fun gg t17 wr => ∃ (i : Nat), Hid (i + gg = L) ∧ t17 = .int .i64 (i : Int) ∧ Hid (Below w.heap.size w wr ∧ ∀ j, j < i → l[j]? = m[j]?))
    case atStart => exact ⟨0, by unfold Hid; omega, rfl, Below.refl _ _, fun j hj => by omega⟩
    case round =>
      obtain ⟨i, hi, rfl, hBX⟩ := hrel
      have hB := hide (unhide hBX).1
      by_cases hlt : i < L
      · have hil : i < l.length := by rw [unhide hL]; exact hlt
        have him : i < m.length := by rw [unhide hM]; exact hlt
        obtain ⟨p, hp⟩ : ∃ p, l[i]? = some p := ⟨_, List.getElem?_eq_getElem hil⟩
        obtain ⟨q, hq⟩ : ∃ q, m[i]? = some q := ⟨_, List.getElem?_eq_getElem him⟩
        obtain ⟨b, off, ia, ic, ka, kc, ea, hb, k0, k1, k2, k3, k4, k5, hx, hy, hsl, hsm, htl, htm⟩ := ((unhide HU).below (unhide hB) (Nat.le_refl _)).six hp
        obtain ⟨b', off', ia', ic', ka', kc', ea', hb', r0, r1, r2, r3, r4, r5, hx', hy', hsl', hsm', htl', htm'⟩ := ((unhide HV).below (unhide hB) (Nat.le_refl _)).six hq
        cases ea
        cases ea'
        have i0 : (0 : Int) ≤ (i : Int) := by omega
        have i1 : (i : Int) < (L : Int) := by omega
        have HBT := hide (bl_two wr)
        have HC0 := fun o1 o2 => eqO_any (w := (wr.alloc o1).alloc o2) ⟨_, _, rfl, hx.below (bl_two wr o1 o2) (Nat.le_refl _), hy.below (bl_two wr o1 o2) (Nat.le_refl _)⟩ ⟨_, _, rfl, hx'.below (bl_two wr o1 o2) (Nat.le_refl _), hy'.below (bl_two wr o1 o2) (Nat.le_refl _)⟩ (unhide HS p (List.mem_of_getElem? hp)).1 (unhide HS p (List.mem_of_getElem? hp)).2
        obtain ⟨d, hd⟩ : ∃ d, Hid (Dc (p = q) = d) := ⟨_, hide rfl⟩
        rw [unhide hd] at HC0
        have HC := hide HC0
        have HP := hide hp
        have HQ := hide hq
        clear hx hx' hy hy' hp hq HC0
        cases d
        · have HN : Hid (¬ l = m) := fun e => not_Dc (unhide hd) (by have h1 := unhide HP; rw [e, unhide HQ] at h1; exact (Option.some.inj h1).symm)
          clear hBX HP HQ hd
          go_wp2_with fail
          refine (unhide HC _ _).mono ?_
          rintro e w1 ⟨rfl, hb1⟩
          have HB2 : Hid (Below w.heap.size w w1) := (unhide hB).trans ((bl_past (unhide HBT _ _) hb1).mono (unhide hB).size)
          clear hb1 HC
          go_wp2_with fail
          go_ret
          exact ⟨by rw [Dc_false (unhide HN)]; rfl, unhide HB2⟩
        · have HE : Hid (∀ j, j < i + 1 → l[j]? = m[j]?) := fun j hj => by
            by_cases hji : j = i
            · subst hji; rw [unhide HP, unhide HQ, of_Dc (unhide hd)]
            · exact (unhide hBX).2 j (by omega)
          clear hBX HP HQ hd
          go_wp2_with fail
          refine (unhide HC _ _).mono ?_
          rintro e w1 ⟨rfl, hb1⟩
          have HB2 : Hid (Below w.heap.size w w1) := (unhide hB).trans ((bl_past (unhide HBT _ _) hb1).mono (unhide hB).size)
          clear hb1 HC
          go_wp2_with fail
          go_roundg (gk - 1)
          case measure => have := unhide hi; omega
          case rel => exact ⟨i + 1, by have := unhide hi; unfold Hid; omega, by go_num, unhide HB2, unhide HE⟩
      · have hiL : i = L := by have := unhide hi; omega
        subst hiL
        have HE : Hid (l = m) := List.ext_getElem? (fun j => by
          by_cases hj : j < i
          · exact (unhide hBX).2 j hj
          · rw [List.getElem?_eq_none (by rw [unhide hL]; omega), List.getElem?_eq_none (by rw [unhide hM]; omega)])
        clear HU HV hBX
        go_wp2_with fail
        go_ret
        exact ⟨by rw [Dc_true (unhide HE)]; rfl, unhide hB⟩
  · have HN : Hid (¬ l = m) := fun e => hlm (by rw [e])
    rw [Dc_false (unhide HN)]
    obtain ⟨L, hL⟩ : ∃ L, Hid (l.length = L) := ⟨_, hide rfl⟩
    obtain ⟨M, hM⟩ : ∃ M, Hid (m.length = M) := ⟨_, hide rfl⟩
    rw [unhide hL] at hN hlm hul ⊢
    rw [unhide hM] at hvl hlm ⊢
    have d0 : (((L : Nat) : Int) != (M : Int)) = true := by simpa using fun e => hlm (by omega)
    clear HU HV HN hlm
    go_enter Try.func45, Try.ntmps45
    go_wp2_with fail
    go_ret
    exact ⟨rfl, Below.refl _ _⟩
end Go.Proofs.Ytadgiccfjppnfaa
