/-
  States held against each other.
-/
import Derived.Test.YtadgiccfjppnfaaSmr
import Derived.Test.YtadgiccfjppnfaaSmf
namespace Go.Proofs.Ytadgiccfjppnfaa
open Go.RowKit
set_option linter.unusedVariables false
set_option linter.unusedSimpArgs false
set_option maxRecDepth 100000 in
set_option maxHeartbeats 3200000 in
theorem smOs_any {w : World} {u v : Value} {l m : List (Ob)} (hu : OsV w u l) (hv : OsV w v m) (hN : l.length ≤ 1048576) (hS : ∀ f ∈ l, f.its.length ≤ 1048576 ∧ f.keys.length ≤ 1048576) :
    Calls Try.prog 34 #[u, v] w fun e w' => e = .returned (.bool (Dc (l = m))) ∧ Below w.heap.size w w' := by
  obtain ⟨ua, uc, rfl, hul, hum⟩ := hu.shape
  obtain ⟨va, vc, rfl, hvl, hvm⟩ := hv.shape
  have HU := hide hu
  have HV := hide hv
  unfold maxLen at hum hvm
  have HS := hide hS
  clear hu hv hS
  by_cases hlm : l.length = m.length
  · obtain ⟨L, hL⟩ : ∃ L, Hid (l.length = L) := ⟨_, hide rfl⟩
    have hM : Hid (m.length = L) := by rw [← hlm]; exact hL
    rw [unhide hL] at hN hul HU ⊢
    rw [unhide hM] at HV hvl ⊢
    clear hlm
    have d0 : (((L : Nat) : Int) != (L : Int)) = false := by simp
    go_enter Try.func34, Try.ntmps34
    go_wp2_with fail
    go_loopg [5] L (fun gg t5 wr => ∃ (i : Nat), Hid (i + gg = L) ∧ t5 = .int .i64 (i : Int) ∧ Hid (Below w.heap.size w wr ∧ ∀ j, j < i → l[j]? = m[j]?))
    case atStart => exact ⟨0, by unfold Hid; omega, rfl, Below.refl _ _, fun j hj => by omega⟩
    case round =>
      obtain ⟨i, hi, rfl, hBX⟩ := hrel
      have hB := hide (unhide hBX).1
      by_cases hlt : i < L
      · have hil : i < l.length := by rw [unhide hL]; exact hlt
        have him : i < m.length := by rw [unhide hM]; exact hlt
        obtain ⟨p, hp⟩ : ∃ p, l[i]? = some p := ⟨_, List.getElem?_eq_getElem hil⟩
        obtain ⟨q, hq⟩ : ∃ q, m[i]? = some q := ⟨_, List.getElem?_eq_getElem him⟩
        obtain ⟨b, off, ia, ic, ka, kc, ea, hb, k0, k1, k2, k3, k4, k5, hx, hy, hsl, hsm, htl, htm⟩ := ((unhide HU).below (unhide hB) (Nat.le_refl _)).six hp
        obtain ⟨b', off', ia', ic', ka', kc', ea', hb', r0, r1, r2, r3, r4, r5, hx', hy', hsl', hsm', htl', htm'⟩ := ((unhide HV).below (unhide hB) (Nat.le_refl _)).six hq
        cases ea
        cases ea'
        have i0 : (0 : Int) ≤ (i : Int) := by omega
        have i1 : (i : Int) < (L : Int) := by omega
        have hdr := bl_drew wr
        have HC0 := smO_any ⟨_, _, rfl, hx.below hdr (Nat.le_refl _), hy.below hdr (Nat.le_refl _)⟩ ⟨_, _, rfl, hx'.below hdr (Nat.le_refl _), hy'.below hdr (Nat.le_refl _)⟩ (unhide HS p (List.mem_of_getElem? hp)).1 (unhide HS p (List.mem_of_getElem? hp)).2
        obtain ⟨d, hd⟩ : ∃ d, Hid (Dc (p = q) = d) := ⟨_, hide rfl⟩
        rw [unhide hd] at HC0
        have HC := hide HC0
        have HP := hide hp
        have HQ := hide hq
        clear hx hx' hp hq hdr HC0
        unfold maxLen at hsm hsm' htm htm'
        clear hy hy'

        cases d
        · have HN : Hid (¬ l = m) := fun e => not_Dc (unhide hd) (by have h1 := unhide HP; rw [e, unhide HQ] at h1; exact (Option.some.inj h1).symm)
          clear hBX HP HQ hd
          go_wp2_with fail
          go_region_held3 (fun w' => w'.cell? ⟨b, off + i * 6, none⟩ = some (.int .i64 p.kind) ∧ w'.cell? ⟨b, off + i * 6 + 1, none⟩ = some (.slice ia p.its.length ic) ∧ w'.cell? ⟨b, off + i * 6 + 2, none⟩ = some (.slice ka p.keys.length kc) ∧ w'.cell? ⟨b, off + i * 6 + 3, none⟩ = some (.int .i64 p.fn) ∧ w'.cell? ⟨b, off + i * 6 + 4, none⟩ = some (.int .i64 p.cap) ∧ w'.cell? ⟨b, off + i * 6 + 5, none⟩ = some (.bool p.shut) ∧ w'.cell? ⟨b', off' + i * 6, none⟩ = some (.int .i64 q.kind) ∧ w'.cell? ⟨b', off' + i * 6 + 1, none⟩ = some (.slice ia' q.its.length ic') ∧ w'.cell? ⟨b', off' + i * 6 + 2, none⟩ = some (.slice ka' q.keys.length kc') ∧ w'.cell? ⟨b', off' + i * 6 + 3, none⟩ = some (.int .i64 q.fn) ∧ w'.cell? ⟨b', off' + i * 6 + 4, none⟩ = some (.int .i64 q.cap) ∧ w'.cell? ⟨b', off' + i * 6 + 5, none⟩ = some (.bool q.shut)) (first | go_keep | exact ⟨(hb1.cell (p := ⟨b, _, none⟩) hb).trans k0, (hb1.cell (p := ⟨b, _, none⟩) hb).trans k1, (hb1.cell (p := ⟨b, _, none⟩) hb).trans k2, (hb1.cell (p := ⟨b, _, none⟩) hb).trans k3, (hb1.cell (p := ⟨b, _, none⟩) hb).trans k4, (hb1.cell (p := ⟨b, _, none⟩) hb).trans k5, (hb1.cell (p := ⟨b', _, none⟩) hb').trans r0, (hb1.cell (p := ⟨b', _, none⟩) hb').trans r1, (hb1.cell (p := ⟨b', _, none⟩) hb').trans r2, (hb1.cell (p := ⟨b', _, none⟩) hb').trans r3, (hb1.cell (p := ⟨b', _, none⟩) hb').trans r4, (hb1.cell (p := ⟨b', _, none⟩) hb').trans r5⟩) (first | (go_at_call 68; refine (unhide HC).mono ?_; rintro e w1 ⟨rfl, hb1⟩))
          have HB2 : Hid (Below w.heap.size w w1) := (unhide hB).trans (((bl_drew wr).mono (unhide hB).size).trans (hb1.mono (unhide hB).size))
          clear hb1 HC
          go_wp2_with fail
          go_ret
          exact ⟨by rw [Dc_false (unhide HN)]; rfl, unhide HB2⟩
        · have HE : Hid (∀ j, j < i + 1 → l[j]? = m[j]?) := fun j hj => by
            by_cases hji : j = i
            · subst hji; rw [unhide HP, unhide HQ, of_Dc (unhide hd)]
            · exact (unhide hBX).2 j (by omega)
          clear hBX HP HQ hd
          go_wp2_with fail
          go_region_held3 (fun w' => w'.cell? ⟨b, off + i * 6, none⟩ = some (.int .i64 p.kind) ∧ w'.cell? ⟨b, off + i * 6 + 1, none⟩ = some (.slice ia p.its.length ic) ∧ w'.cell? ⟨b, off + i * 6 + 2, none⟩ = some (.slice ka p.keys.length kc) ∧ w'.cell? ⟨b, off + i * 6 + 3, none⟩ = some (.int .i64 p.fn) ∧ w'.cell? ⟨b, off + i * 6 + 4, none⟩ = some (.int .i64 p.cap) ∧ w'.cell? ⟨b, off + i * 6 + 5, none⟩ = some (.bool p.shut) ∧ w'.cell? ⟨b', off' + i * 6, none⟩ = some (.int .i64 q.kind) ∧ w'.cell? ⟨b', off' + i * 6 + 1, none⟩ = some (.slice ia' q.its.length ic') ∧ w'.cell? ⟨b', off' + i * 6 + 2, none⟩ = some (.slice ka' q.keys.length kc') ∧ w'.cell? ⟨b', off' + i * 6 + 3, none⟩ = some (.int .i64 q.fn) ∧ w'.cell? ⟨b', off' + i * 6 + 4, none⟩ = some (.int .i64 q.cap) ∧ w'.cell? ⟨b', off' + i * 6 + 5, none⟩ = some (.bool q.shut)) (first | go_keep | exact ⟨(hb1.cell (p := ⟨b, _, none⟩) hb).trans k0, (hb1.cell (p := ⟨b, _, none⟩) hb).trans k1, (hb1.cell (p := ⟨b, _, none⟩) hb).trans k2, (hb1.cell (p := ⟨b, _, none⟩) hb).trans k3, (hb1.cell (p := ⟨b, _, none⟩) hb).trans k4, (hb1.cell (p := ⟨b, _, none⟩) hb).trans k5, (hb1.cell (p := ⟨b', _, none⟩) hb').trans r0, (hb1.cell (p := ⟨b', _, none⟩) hb').trans r1, (hb1.cell (p := ⟨b', _, none⟩) hb').trans r2, (hb1.cell (p := ⟨b', _, none⟩) hb').trans r3, (hb1.cell (p := ⟨b', _, none⟩) hb').trans r4, (hb1.cell (p := ⟨b', _, none⟩) hb').trans r5⟩) (first | (go_at_call 68; refine (unhide HC).mono ?_; rintro e w1 ⟨rfl, hb1⟩))
          have HB2 : Hid (Below w.heap.size w w1) := (unhide hB).trans (((bl_drew wr).mono (unhide hB).size).trans (hb1.mono (unhide hB).size))
          clear hb1 HC
          go_wp2_with fail
          go_roundg (gk - 1)
          case measure => have := unhide hi; omega
          case rel => exact ⟨i + 1, by have := unhide hi; unfold Hid; omega, by go_num, unhide HB2, unhide HE⟩
      · have hiL : i = L := by have := unhide hi; omega
        subst hiL
        have HE : Hid (l = m) := List.ext_getElem? (fun j => by
          by_cases hj : j < i
          · exact (unhide hBX).2 j hj
          · rw [List.getElem?_eq_none (by rw [unhide hL]; omega), List.getElem?_eq_none (by rw [unhide hM]; omega)])
        clear HU HV hBX
        go_wp2_with fail
        go_ret
        exact ⟨by rw [Dc_true (unhide HE)]; rfl, unhide hB⟩
  · have HN : Hid (¬ l = m) := fun e => hlm (by rw [e])
    rw [Dc_false (unhide HN)]
    obtain ⟨L, hL⟩ : ∃ L, Hid (l.length = L) := ⟨_, hide rfl⟩
    obtain ⟨M, hM⟩ : ∃ M, Hid (m.length = M) := ⟨_, hide rfl⟩
    rw [unhide hL] at hN hlm hul ⊢
    rw [unhide hM] at hvl hlm ⊢
    have d0 : (((L : Nat) : Int) != (M : Int)) = true := by simpa using fun e => hlm (by omega)
    clear HU HV HN hlm
    go_enter Try.func34, Try.ntmps34
    go_wp2_with fail
    go_ret
    exact ⟨rfl, Below.refl _ _⟩

set_option linter.unusedVariables false
set_option linter.unusedSimpArgs false
/-- A state of lists that are not too long. -/
structure StB (s : St) : Prop where
  tl : s.texts.length ≤ 1048576
  ol : s.objs.length ≤ 1048576
  bl : s.fibs.length ≤ 1048576
  os : ∀ o ∈ s.objs, o.its.length ≤ 1048576 ∧ o.keys.length ≤ 1048576
  bs : ∀ b ∈ s.fibs, b.length ≤ 1048576 ∧ ∀ x ∈ b, x.sl.length ≤ 1048576
theorem bl_twoS {w w1 : World} {o1 o2 : Obj} (h : Below ((w.alloc o1).alloc o2).heap.size ((w.alloc o1).alloc o2) w1) : Below (w.heap.size + 2) ((w.alloc o1).alloc o2) w1 := h.mono (by simp only [World.size_alloc]; omega)
theorem two_cells {w w1 : World} {a b : Array Value} {ta tb : TypeId} (h : Below w.heap.size w w1 ∧ Below (w.heap.size + 2) ((w.alloc (.cells a ta)).alloc (.cells b tb)) w1) :
    (∀ j z, a.toList[j]? = some z → w1.cell? ⟨w.heap.size, j, none⟩ = some z) ∧ ∀ j z, b.toList[j]? = some z → w1.cell? ⟨w.heap.size + 1, j, none⟩ = some z := by
  obtain ⟨_, h⟩ := h
  refine ⟨fun j z hz => ?_, fun j z hz => ?_⟩
  · refine (h.cell (p := ⟨w.heap.size, j, none⟩) (show w.heap.size < w.heap.size + 2 by omega)).trans ?_
    rw [World.cell?_of_block (Below.heap_alloc _ _ _ (by simp))]
    have := new_cells w a ta j z hz
    rwa [Go.WideShapes.add_plain, Nat.zero_add] at this
  · refine (h.cell (p := ⟨w.heap.size + 1, j, none⟩) (show w.heap.size + 1 < w.heap.size + 2 by omega)).trans ?_
    have := new_cells (w.alloc (.cells a ta)) b tb j z hz
    rwa [Go.WideShapes.add_plain, Nat.zero_add, World.size_alloc] at this
set_option maxRecDepth 100000 in
set_option maxHeartbeats 3200000 in
theorem smS_any {w : World} {u v : Value} {s t : St} (hu : StV w u s) (hv : StV w v t) (hs : StB s) :
    Calls Try.prog 10 #[u, v] w fun e w' => e = .returned (.bool (Dc (s = t))) ∧ Below w.heap.size w w' := by
  obtain ⟨ta, tc, oa, oc, ba, bc, rfl, rt, ro, rb, t1, t2, o1, o2, b1, b2⟩ := hu.shape
  obtain ⟨ta', tc', oa', oc', ba', bc', rfl, rt', ro', rb', t1', t2', o1', o2', b1', b2'⟩ := hv.shape
  unfold maxLen at t2 o2 b2 t2' o2' b2'
  have H1 := hide (fun w1 (hb : Below w.heap.size w w1) => smT_any (rt.below hb (Nat.le_refl _)) (rt'.below hb (Nat.le_refl _)) (by have := hs.tl; omega))
  have H2 := hide (fun w1 (hb : Below w.heap.size w w1) => smOs_any (ro.below hb (Nat.le_refl _)) (ro'.below hb (Nat.le_refl _)) hs.ol hs.os)
  have H3 := hide (fun w1 (hb : Below w.heap.size w w1) => smBs_any (rb.below hb (Nat.le_refl _)) (rb'.below hb (Nat.le_refl _)) hs.bl hs.bs)
  clear hu hv rt ro rb rt' ro' rb' hs
  obtain ⟨xt, xo, xb, c, st, sp, rd⟩ := s
  obtain ⟨yt, yo, yb, c', st', sp', rd'⟩ := t
  simp only at H1 H2 H3 t1 o1 b1 t1' o1' b1' ⊢
  have HB := hide (bl_two w)
  by_cases e1 : c = c'
  case neg =>
    rw [Dc_false (fun e => e1 (by cases e; rfl))]
    have d1 : (c != c') = true := by simpa using e1
    have d2 : (c == c') = false := by simpa using e1
    clear H1 H2 H3 e1
    go_enter Try.func10, Try.ntmps10
    go_wp2_with fail
    go_ret
    exact ⟨rfl, unhide HB _ _⟩

  subst e1
  by_cases e2 : st = st'
  case neg =>
    rw [Dc_false (fun e => e2 (by cases e; rfl))]
    have d1 : (st != st') = true := by simpa using e2
    have d2 : (st == st') = false := by simpa using e2
    clear H1 H2 H3 e2
    go_enter Try.func10, Try.ntmps10
    go_wp2_with fail
    go_ret
    exact ⟨rfl, unhide HB _ _⟩

  subst e2
  by_cases e3 : sp = sp'
  case neg =>
    rw [Dc_false (fun e => e3 (by cases e; rfl))]
    have d1 : (sp != sp') = true := by simpa using e3
    have d2 : (sp == sp') = false := by simpa using e3
    clear H1 H2 H3 e3
    go_enter Try.func10, Try.ntmps10
    go_wp2_with fail
    go_ret
    exact ⟨rfl, unhide HB _ _⟩

  subst e3
  by_cases e4 : rd = rd'
  case neg =>
    rw [Dc_false (fun e => e4 (by cases e; rfl))]
    have d1 : (rd != rd') = true := by simpa using e4
    have d2 : (rd == rd') = false := by simpa using e4
    clear H1 H2 H3 e4
    go_enter Try.func10, Try.ntmps10
    go_wp2_with fail
    go_ret
    exact ⟨rfl, unhide HB _ _⟩

  subst e4
  have ed : Dc ((⟨xt, xo, xb, c, st, sp, rd⟩ : St) = ⟨yt, yo, yb, c, st, sp, rd⟩) = Dc (xt = yt ∧ xo = yo ∧ xb = yb) := Dc_congr ⟨fun e => by cases e; exact ⟨rfl, rfl, rfl⟩, fun e => by rw [e.1, e.2.1, e.2.2]⟩
  rw [ed]
  clear ed
  by_cases e5 : xt = yt
  case neg =>
    rw [Dc_false (fun e => e5 e.1)]
    rw [Dc_false e5] at H1
    clear H2 H3 e5
    go_enter Try.func10, Try.ntmps10
    go_wp2_with fail
    refine (unhide H1 _ (unhide HB _ _)).mono ?_
    rintro e w1 ⟨rfl, hb1⟩
    have HB1 := hide hb1
    clear hb1 H1
    go_wp2_with fail
    go_ret
    exact ⟨rfl, bl_past (unhide HB _ _) (unhide HB1)⟩
  rw [Dc_true e5] at H1
  by_cases e6 : xo = yo
  case neg =>
    rw [Dc_false (fun e => e6 e.2.1)]
    rw [Dc_false e6] at H2
    clear H3 e5 e6
    go_enter Try.func10, Try.ntmps10
    go_wp2_with fail
    refine (unhide H1 _ (unhide HB _ _)).mono ?_
    rintro e w1 ⟨rfl, hb1⟩
    have hbw := bl_past (unhide HB _ _) hb1
    have HB1 := hide hbw
    obtain ⟨m1, m2⟩ := two_cells ⟨hbw, bl_twoS hb1⟩
    have q1 := m1 1 _ rfl
    have q2 := m2 1 _ rfl
    have K2 := hide (unhide H2 w1 hbw)
    clear hb1 H1 H2 hbw m1 m2
    go_wp2_with fail
    refine (unhide K2).mono ?_
    rintro e w2 ⟨rfl, hb2⟩
    have HB2 := hide hb2
    clear hb2 K2
    go_wp2_with fail
    go_ret
    exact ⟨rfl, bl_past (unhide HB1) (unhide HB2)⟩
  rw [Dc_true e6] at H2
  have ed : Dc (xt = yt ∧ xo = yo ∧ xb = yb) = Dc (xb = yb) := Dc_congr ⟨fun e => e.2.2, fun e => ⟨e5, e6, e⟩⟩
  rw [ed]
  clear ed e5 e6
  generalize Dc (xb = yb) = d at *
  go_enter Try.func10, Try.ntmps10
  go_wp2_with fail
  refine (unhide H1 _ (unhide HB _ _)).mono ?_
  rintro e w1 ⟨rfl, hb1⟩
  have hbw := bl_past (unhide HB _ _) hb1
  have HB1 := hide hbw
  have hb1' := bl_twoS hb1
  obtain ⟨m1, m2⟩ := two_cells ⟨hbw, hb1'⟩
  have HB1' := hide hb1'
  have q1 := m1 1 _ rfl
  have q2 := m2 1 _ rfl
  have K2 := hide (unhide H2 w1 hbw)
  clear hb1 H1 H2 hbw m1 m2 hb1'
  go_wp2_with fail
  refine (unhide K2).mono ?_
  rintro e w2 ⟨rfl, hb2⟩
  have hbw := bl_past (unhide HB1) hb2
  have hs1 : w.heap.size + 2 ≤ w1.heap.size := by have := (unhide HB1').size; simpa using this
  obtain ⟨m1, m2⟩ := two_cells ⟨hbw, (unhide HB1').trans (hb2.mono hs1)⟩
  have q3 := m1 2 _ rfl
  have q4 := m2 2 _ rfl
  have HB2 := hide hbw
  have K3 := hide (unhide H3 w2 hbw)
  clear hb2 K2 hbw m1 m2 hs1 H3 q1 q2
  go_wp2_with fail
  refine (unhide K3).mono ?_
  rintro e w3 ⟨rfl, hb3⟩
  have HB3 := hide hb3
  clear hb3 K3
  go_wp2_with fail
  go_ret
  exact ⟨rfl, bl_past (unhide HB2) (unhide HB3)⟩
end Go.Proofs.Ytadgiccfjppnfaa
