/-
  ApartCode.
-/
import Derived.Test.YtjifgnpcadeonaaAPC
namespace Go.Proofs.Ytjifgnpcadeonaa
open Go.RowKit
set_option linter.unusedVariables false
set_option linter.unusedSimpArgs false

theorem row_shp {w : World} {base : Nat} {e : TypeId} {v : Value} {n : Nat} {xs : List Value} (h : w.ownsRow base e 1 v n xs) : ∃ a cap, v = .slice a n cap := by
  rcases h.2 with ⟨e1, e2⟩ | ⟨g, cap, cur, e1, _⟩
  · exact ⟨none, 0, by rw [e1, e2]⟩
  · exact ⟨_, cap, e1⟩
theorem Try.info22 : (Try.prog.info? 22).map (fun i => (i.zero, i.size, i.bytes)) = some (some (.slice none 0 0), 1, 24) := by kernel_rfl

set_option maxRecDepth 100000 in
set_option maxHeartbeats 6000000 in
theorem apartC (w0 : World) (lb : Nat) (V : Nat → Value) (N : Nat → Nat) (c : AS w0 lb V N) :
    Calls Try.prog 23 #[.slice (some ⟨lb, 0, none⟩) 3 3] w0 fun e w' => e = .returned (.bool true) ∧ Fr (SV V) w0 w' := by
  obtain ⟨i0, hi0, hz0, hz1, hz2⟩ := info_parts Try.info22
  have HI := hide (And.intro hi0 (And.intro hz0 (And.intro hz1 hz2)))
  have C := hide c
  have S0 := hide (M1.start c)
  clear c hi0 hz0 hz1 hz2
  go_enter Try.func23, Try.ntmps23
  go_wp2_with fail
  go_loopg [3] 3 (fun g t3 wr => ∃ (k : Nat), Hid (k + g = 3) ∧ t3 = .int .i64 (k : Int) ∧ Hid (M1 w0 V N k 0 wr))
  case atStart => exact ⟨0, rfl, rfl, unhide S0⟩
  case round =>
    clear S0
    obtain ⟨k, hk, rfl, hM⟩ := hrel
    by_cases hlt : k < 3
    · obtain ⟨va, vc, hv⟩ := (unhide hM).shape hlt
      have HV := hide hv
      have k0 : (0 : Int) ≤ (k : Int) := by omega
      have k1 : (k : Int) < 3 := by omega
      obtain ⟨n, hn⟩ : ∃ n, Hid (n = N k) := ⟨_, rfl⟩
      have hle : n ≤ 2000 := by rw [unhide hn]; exact (unhide C).le k
      obtain ⟨G0, hG0⟩ : ∃ G0 : Nat, Hid (G0 = gk) := ⟨_, rfl⟩
      have ewk : IntKind.i64.wrap (-10 - (k : Int)) = -10 - (k : Int) := by rw [IntKind.wrap_i64]; omega
      clear hv
      go_wp2_with fail
      go_loopg [4] n (fun g t4 wr => ∃ (i : Nat), Hid (i + g = n) ∧ t4 = .int .i64 (i : Int) ∧ Hid (M1 w0 V N k i wr))
      case atStart => exact ⟨0, by unfold Hid; omega, rfl, unhide hM⟩
      case round =>
        clear hM
        obtain ⟨i, hi, rfl, hM⟩ := hrel
        have cl := (unhide C).cellw (unhide hM).fr hlt
        rw [unhide HV, ← unhide hn] at cl
        have lbl : lb < wr.heap.size := World.block_lt_of_cell? _ _ cl
        by_cases hi2 : i < n
        · obtain ⟨g, off, cap, e, hg, ⟨u0, c0⟩, ⟨u1, c1⟩, cf, hN⟩ := (unhide hM).step (unhide C) hlt (by rw [← unhide hn]; exact hi2)
          rw [unhide HV] at e
          cases e
          have cf0 := cf (off + i * 2)
          have cf1 := cf (off + i * 2 + 1)
          have HN := hide hN
          have i1 : (0 : Int) ≤ (i : Int) := by omega
          have i2 : (i : Int) < (n : Int) := by omega
          clear hN cf
          go_wp2_with fail
          go_roundg (gk - 1)
          case measure => have := unhide hi; omega
          case rel => exact ⟨i + 1, by have := unhide hi; unfold Hid; omega, by go_num, HN⟩
        · have hin : i = n := by have := unhide hi; omega
          subst hin
          have HN : Hid (M1 w0 V N (k + 1) 0 wr) := by have q := unhide hM; rw [unhide hn] at q; exact q.next
          go_wp2_with fail
          go_roundg (G0 - 1)
          case measure => have h1 := unhide hG0; have h2 := unhide hk; omega
          case rel => exact ⟨k + 1, by have h1 := unhide hG0; have h2 := unhide hk; unfold Hid; omega, by go_num, HN⟩
    · have hk3 : k = 3 := by have := unhide hk; omega
      subst hk3
      have G3 := hide (G1.start (unhide hM) (fun _ => .slice none 0 0))
      clear hM hlt
      go_wp2_with fail
      go_loopg [5, 6] 3 (fun g t5 t6 wr => ∃ (k : Nat) (cur : Nat → Value) (gs : Value), Hid (k + g = 3) ∧ t5 = gs ∧ t6 = .int .i64 (k : Int) ∧ Hid (G1 w0 V N k cur gs wr))
      case atStart => exact ⟨0, _, _, rfl, rfl, rfl, unhide G3⟩
      case round =>
        clear G3
        obtain ⟨k, cur, gs, hk, hgs, rfl, hG⟩ := hrel
        by_cases hlt : k < 3
        · obtain ⟨ga, gc, eg⟩ := row_shp (unhide hG).gr
          rw [eg] at hgs
          subst hgs
          subst eg
          have hO := hide ((unhide hG).open (unhide C) hlt)
          obtain ⟨va, vc, hv, hv1, hv2⟩ := ((unhide hG).ls k hlt).shape
          have HV := hide hv
          have k0 : (0 : Int) ≤ (k : Int) := by omega
          have k1 : (k : Int) < 3 := by omega
          obtain ⟨n, hn⟩ : ∃ n, Hid (n = N k) := ⟨_, rfl⟩
          have hle : n ≤ 2000 := by rw [unhide hn]; exact (unhide C).le k
          obtain ⟨G0, hG0⟩ : ∃ G0 : Nat, Hid (G0 = gk) := ⟨_, rfl⟩
          have ewk : IntKind.i64.wrap (-10 - (k : Int)) = -10 - (k : Int) := by rw [IntKind.wrap_i64]; omega
          have cl := (unhide C).cellw (unhide hG).fr hlt
          rw [unhide HV, ← unhide hn] at cl
          have lbl : lb < wr.heap.size := World.block_lt_of_cell? _ _ cl
          clear hv hv1 hv2
          go_wp2_with fail
          go_loopg [7, 8] 64 (fun g t7 t8 wr => ∃ (i : Nat) (cv : Value), Hid (i + g = 64) ∧ t7 = cv ∧ t8 = .int .i64 (i : Int) ∧ Hid (G2 w0 V N k i cv cur (.slice ga k gc) wr))
          case atStart => exact ⟨0, V k, by unfold Hid; omega, by rw [unhide HV, ← unhide hn], rfl, unhide hO⟩
          case round =>
            clear hO cl lbl
            obtain ⟨i, cv, hi, hcv, rfl, hGi⟩ := hrel
            have cl := (unhide C).cellw (unhide hGi).g1.fr hlt
            rw [unhide HV, ← unhide hn] at cl
            have lbl : lb < wr.heap.size := World.block_lt_of_cell? _ _ cl
            obtain ⟨ca, cc, ec, ec1, ec2⟩ := (unhide hGi).cc.shape
            rw [← unhide hn] at ec ec1
            rw [ec] at hcv
            subst hcv
            subst ec
            by_cases hi2 : i < 64
            · have HRo : Hid (Ro (wr.alloc (.cells #[.int .i64 (-10 - (k : Int)), .int .i64 ((n : Int) + (i : Int))] 34)) 2 (.slice ca (n + i) cc) (mks k (n + i)).length (flat (mks k (n + i)))) := by
                have q := (unhide hGi).cc
                rw [← unhide hn] at q
                rw [mks_length]
                exact Fr.row2 (S := fun _ => False) q ((Fr.refl _ wr).alloc _) (fun _ _ e => e)
              have HTN := hide (two_new' wr (.int .i64 (-10 - (k : Int))) (.int .i64 ((n : Int) + (i : Int))) 34)
              have HLN : Hid ((mks k (n + i)).length ≤ 8796093022207) := by rw [mks_length]; unfold Hid; omega
              have j1 : (i : Int) < 64 := by omega
              have ewn : IntKind.i64.wrap ((n : Int) + (i : Int)) = (n : Int) + (i : Int) := by rw [IntKind.wrap_i64]; omega
              go_wp2_with (first | (at_builtin; refine wpList_appX rfl _ _ rfl _ (mks k (n + i)) rfl (unhide HRo) ⟨wr.heap.size, 0, none⟩ 1 (-10 - (k : Int)) ((n : Int) + (i : Int)) rfl (unhide HTN) (unhide HLN) ?_))
              intro v' w' hr hg hat hold
              have HN : Hid (G2 w0 V N k (i + 1) v' cur (.slice ga k gc) w') := by
                have q := (unhide hGi).step (w' := w') (v' := v') (X := .cells #[.int .i64 (-10 - (k : Int)), .int .i64 ((n : Int) + (i : Int))] 34) (unhide C) hlt
                rw [← unhide hn] at q
                refine q ?_ hg ?_ ?_
                · have r := hr
                  simp only [List.length_append, mks_length, List.length_cons, List.length_nil] at r
                  have e : mki k (n + i) = (-10 - (k : Int), (n : Int) + (i : Int)) := by simp [mki]
                  rw [e]
                  exact r
                · rcases hat with ⟨g, off, cap, ⟨e1, _, e3⟩, e4⟩ | e
                  · exact .inl ⟨g, off, cap, by rw [e1, e3], by rw [e4, mks_length]⟩
                  · exact .inr (by simpa using e)
                · rw [mks_length] at hold
                  exact hold
              clear hr hg hat hold
              go_wp2_with fail
              go_roundg (gk - 1)
              case measure => have := unhide hi; omega
              case rel => exact ⟨i + 1, v', by have := unhide hi; unfold Hid; omega, rfl, by go_num, HN⟩
            · have hi64 : i = 64 := by have := unhide hi; omega
              subst hi64
              have HO := hide (unhide hGi).g1.gr
              have hi0 := (unhide HI).1
              have hz0 := (unhide HI).2.1
              have hz1 := (unhide HI).2.2.1
              have hz2 := (unhide HI).2.2.2
              have HSZ : Hid (w0.heap.size ≤ wr.heap.size) := (unhide hGi).g1.fr.size
              go_wp2_with (first | (at_builtin; refine wpList_append_own_at _ rfl _ _ 44 rfl w0.heap.size 22 i0 (.slice none 0 0) 1 24 Try.underlying44 hi0 hz0 hz1 hz2 rfl (by decide) _ _ _ rfl ((unhide HO).alloc _) ⟨wr.heap.size, 0, none⟩ 1 1 [.slice ca (n + 64) cc] rfl rfl (cell_one_new _ _ _) (by simp [Value.oneCell']) (by unfold maxLen; omega) (by omega) (by have := unhide HSZ; simp; omega) ?_))
              intro gs' w2 hown' hgrow hnil hat
              have HN := hide ((unhide hGi).push (unhide C) hlt (X := _) hown' hgrow (by simpa using hat))
              clear hown' hgrow hnil hat hi0 hz0 hz1 hz2
              go_wp2_with fail
              go_roundg (G0 - 1)
              case measure => have h1 := unhide hG0; have h2 := unhide hk; omega
              case rel => exact ⟨k + 1, _, gs', by have h1 := unhide hG0; have h2 := unhide hk; unfold Hid; omega, rfl, by go_num, unhide HN⟩
        · have hk3 : k = 3 := by have := unhide hk; omega
          subst hk3
          obtain ⟨ga, gc, eg⟩ := row_shp (unhide hG).gr
          rw [eg] at hgs
          subst hgs
          subst eg
          have HF : Hid (Fr (SV V) w0 wr) := (unhide hG).fr
          obtain ⟨Y, hY⟩ : ∃ Y, Hid (Y = wr) := ⟨_, rfl⟩
          rw [← unhide hY] at hG HF
          clear hlt
          go_wp2_with fail
          go_loopg [9] 3 (fun g t9 wq => ∃ (k : Nat), Hid (k + g = 3) ∧ t9 = .int .i64 (k : Int) ∧ Hid (Below Y.heap.size Y wq))
          case atStart => exact ⟨0, rfl, rfl, by rw [unhide hY]; exact Below.refl _ _⟩
          case round =>
            obtain ⟨k, hk, rfl, hB⟩ := hrel
            by_cases hlt : k < 3
            · obtain ⟨n, hn⟩ : ∃ n, Hid (n = N k) := ⟨_, rfl⟩
              have hle : n ≤ 2000 := by rw [unhide hn]; exact (unhide C).le k
              have k0 : (0 : Int) ≤ (k : Int) := by omega
              have k1 : (k : Int) < 3 := by omega
              have ewk : IntKind.i64.wrap (-10 - (k : Int)) = -10 - (k : Int) := by rw [IntKind.wrap_i64]; omega
              obtain ⟨G0, hG0⟩ : ∃ G0 : Nat, Hid (G0 = gk) := ⟨_, rfl⟩
              -- the row that has grown, and the row that came in
              have hcr := (unhide hG).cr k hlt
              rw [← unhide hn] at hcr
              obtain ⟨g, off, cap, eg, _, _, hgl, hgc⟩ := hcr.full (by omega)
              have hls := (unhide hG).ls k hlt
              obtain ⟨va, vc, ev, _, _⟩ := hls.shape
              have hgo := (unhide hG).gr
              have hgb : ∃ gb, ga = some ⟨gb, 0, none⟩ ∧ gb < Y.heap.size ∧ Y.cell? ⟨gb, k, none⟩ = some (cur k) := by
                rcases hgo.2 with ⟨_, q⟩ | ⟨gb, cp, cu, e, _⟩
                · omega
                · cases e
                  have hc := hgo.cells (g := gb) rfl k (cur k) (by simp [hlt])
                  rw [addr_add0] at hc
                  exact ⟨gb, rfl, (hgo.lt gb rfl).2, hc⟩
              obtain ⟨gb, rfl, hgbl, hgbc⟩ := hgb
              rw [eg] at hgbc
              have hlc := (unhide C).cellw (unhide HF) hlt
              rw [ev, ← unhide hn] at hlc
              have HLS : Hid (∀ i, i < n → ∃ b o, va = some ⟨b, o, none⟩ ∧ b < Y.heap.size ∧ Y.cell? ⟨b, o + i * 2, none⟩ = some (.int .i64 (-10 - (k : Int))) ∧ Y.cell? ⟨b, o + i * 2 + 1, none⟩ = some (.int .i64 (i : Int))) := fun i hi => by
                rw [← unhide hn] at hls
                have q := hls
                rw [← mks_length k n] at q
                obtain ⟨b, o, cp, e, _, _, hb, c0, c1⟩ := Ro.pair (Q := mks k n) (by rw [mks_length]; rw [mks_length] at q; exact q) (mks_at k n i hi)
                rw [ev, ← unhide hn, mks_length] at e
                cases e
                exact ⟨b, o, rfl, hb, c0, c1⟩
              have HGS : Hid (∀ i, i < n + 64 → Y.cell? ⟨g, off + i * 2, none⟩ = some (.int .i64 (-10 - (k : Int))) ∧ Y.cell? ⟨g, off + i * 2 + 1, none⟩ = some (.int .i64 (i : Int))) := fun i hi => by
                obtain ⟨b, o, cp, e, _, _, hb, c0, c1⟩ := Ro.pair (Q := mks k (n + 64)) (by rw [mks_length]; exact hcr) (mks_at k (n + 64) i hi)
                rw [eg, mks_length] at e
                cases e
                exact ⟨c0, c1⟩
              have HA := hide (And.intro hgbc (And.intro hlc (And.intro hgl (And.intro hgbl (unhide C).lbl))))
              clear hcr hls hgo hgbc hlc hgc ev eg
              go_wp2_with fail
              go_loopg [10] (n + 64) (fun g t10 wq => ∃ (i : Nat), Hid (i + g = n + 64) ∧ t10 = .int .i64 (i : Int) ∧ Hid (Below Y.heap.size Y wq))
              case atStart => exact ⟨0, by unfold Hid; omega, rfl, unhide hB⟩
              case round =>
                clear hB
                obtain ⟨i, hi, rfl, hB⟩ := hrel
                obtain ⟨a1, a2, a3, a4, a5⟩ := unhide HA
                have q1 := ((unhide hB).cell (p := ⟨gb, k, none⟩) a4).trans a1
                have hYl : lb < Y.heap.size := Nat.lt_of_lt_of_le a5 (unhide HF).size
                have q2 := ((unhide hB).cell (p := ⟨lb, k, none⟩) hYl).trans a2
                have hsz := (unhide hB).size
                have l1 : gb < wr.heap.size := by omega
                have l2 : lb < wr.heap.size := by omega
                have l3 : g < wr.heap.size := by omega
                clear a1 a2
                by_cases hi2 : i < n + 64
                · obtain ⟨c0, c1⟩ := unhide HGS i hi2
                  have d0 := ((unhide hB).cell (p := ⟨g, off + i * 2, none⟩) a3).trans c0
                  have d1 := ((unhide hB).cell (p := ⟨g, off + i * 2 + 1, none⟩) a3).trans c1
                  have i0 : (0 : Int) ≤ (i : Int) := by omega
                  have i1 : (i : Int) < (n : Int) + 64 := by omega
                  have hB2 := hide (Bl.go (unhide hB) hsz ((Below.refl _ wr).alloc (Nat.le_refl _) (.cells #[.int .i64 (-10 - (k : Int)), .int .i64 (i : Int)] 34)))
                  have al := fun (b : Nat) (x : Nat) (h : b < wr.heap.size) => World.cell?_of_block (w := wr) (a := ⟨b, x, none⟩) (Below.heap_alloc wr (.cells #[.int .i64 (-10 - (k : Int)), .int .i64 (i : Int)] 34) b h)
                  have e1 := (al gb k l1).trans q1
                  have e2 := (al lb k l2).trans q2
                  have e3 := (al g (off + i * 2) l3).trans d0
                  have e4 := (al g (off + i * 2 + 1) l3).trans d1
                  obtain ⟨b0, b1⟩ := two_new wr (.int .i64 (-10 - (k : Int))) (.int .i64 (i : Int)) 34
                  clear c0 c1 a3 a4 a5 hYl
                  by_cases hi3 : i < n
                  · obtain ⟨b, o', rfl, hb, z0, z1⟩ := unhide HLS i hi3
                    have hb2 : b < wr.heap.size := by omega
                    have y0 := ((unhide hB).cell (p := ⟨b, o' + i * 2, none⟩) hb).trans z0
                    have y1 := ((unhide hB).cell (p := ⟨b, o' + i * 2 + 1, none⟩) hb).trans z1
                    have e5 := (al b (o' + i * 2) hb2).trans y0
                    have e6 := (al b (o' + i * 2 + 1) hb2).trans y1
                    have i2 : (i : Int) < (n : Int) := by omega
                    clear z0 z1 hb al
                    go_wp2_with fail
                    go_quiet (fail)
                    have hB3 : Hid (Below Y.heap.size Y ((wr.alloc (.cells #[.int .i64 (-10 - (k : Int)), .int .i64 (i : Int)] 34)).drewN nq)) := Below.drewNB (unhide hB2) nq
                    go_wp2_with fail
                    go_roundg (gk - 1)
                    case measure => have := unhide hi; omega
                    case rel => exact ⟨i + 1, by have := unhide hi; unfold Hid; omega, by go_num, hB3⟩
                  · have i2 : decide ((i : Int) < (n : Int)) = false := decide_eq_false (by omega)
                    have i3 : decide (i < n) = false := decide_eq_false (by omega)
                    clear al
                    go_wp2_with fail
                    go_quiet (fail)
                    have hB3 : Hid (Below Y.heap.size Y ((wr.alloc (.cells #[.int .i64 (-10 - (k : Int)), .int .i64 (i : Int)] 34)).drewN nq)) := Below.drewNB (unhide hB2) nq
                    go_wp2_with fail
                    go_roundg (gk - 1)
                    case measure => have := unhide hi; omega
                    case rel => exact ⟨i + 1, by have := unhide hi; unfold Hid; omega, by go_num, hB3⟩
                · have hin : i = n + 64 := by have := unhide hi; omega
                  subst hin
                  clear a3 a4 a5 hYl
                  go_wp2_with fail
                  go_roundg (G0 - 1)
                  case measure => have h1 := unhide hG0; have h2 := unhide hk; omega
                  case rel => exact ⟨k + 1, by have h1 := unhide hG0; have h2 := unhide hk; unfold Hid; omega, by go_num, hB⟩
            · have hk3 : k = 3 := by have := unhide hk; omega
              subst hk3
              go_wp2_with fail
              go_ret
              refine ⟨rfl, (unhide HF).trans2 (Fr.of_below (S := fun _ => False) (unhide hB)) (fun _ _ e => e.elim)⟩
end Go.Proofs.Ytjifgnpcadeonaa
