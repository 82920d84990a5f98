/-
  ApartRegs: the lists of operands and of numbers of codes of one's own.
-/
import Derived.Test.YtiamoinhmkhaoaaApg
import Derived.Test.YtiamoinhmkhaoaaLo
namespace Go.Proofs.Ytiamoinhmkhaoaa
open Go.RowKit
set_option linter.unusedVariables false
set_option linter.unusedSimpArgs false
def mkL (k i : Nat) : Int := 1000003 * ((k : Int) + 1) + (i : Int)
theorem wpList_appLO {w : World} {ops : Array Oper} {rest : List Oper} {o : Oper} {a : Act} {Q : Exit → Act → World → Prop}
    (hg : o.guard = none) (s x : Operand) (hop : o.op = Op.call { callee := Callee.builtin Builtin.append, args := #[s, x], argTypes := #[37, 37] })
    (v : Value) (l : List Int) (hs : a.eval s = v) (hr : Ro w 1 v l.length (flt enI l)) (ad : Addr) (c : Nat) (k : Int) (hx : a.eval x = .slice (some ad) 1 c) (hc : ∀ j u, [Value.int .i64 k][j]? = some u → w.cell? (ad.add j) = some u)
    (hN : l.length ≤ 8796093022207)
    (hK : ∀ v' w', Ro w' 1 v' (l ++ [k]).length (flt enI (l ++ [k])) → w.grownBy w' v.ownBlock → ((∃ g off cap, v = .slice (some ⟨g, off, none⟩) l.length cap ∧ v' = .slice (some ⟨g, off, none⟩) (l.length + 1) cap) ∨ v'.ownBlock = some w.heap.size) → Ro w' 1 v l.length (flt enI l) → wpList Try.prog ops Q rest (a.put o.dst v') w') :
    wpList Try.prog ops Q (o :: rest) a w := by
  obtain ⟨i0, hi0, hz0, hz1, hz2⟩ := info_parts infI
  refine wpList_appO0 hg s x 37 hop 3 i0 _ 1 8 Try.underlying37 hi0 hz0 hz1 hz2 rfl (by decide) v l.length (flt enI l) hs hr ad 1 c [.int .i64 k] hx rfl hc (by simp [Value.oneCell']) (by omega) (by unfold maxLen; omega) (by omega) (fun v' w' r1 r2 r3 r4 => hK v' w' ?_ r2 r3 r4)
  rw [flt_append, List.length_append]
  exact r1
set_option maxRecDepth 100000 in
set_option maxHeartbeats 6000000 in
theorem apartI (R : Nat) (w0 : World) (lb lo lc : Nat) (V : Nat → Value) (N : Nat → Nat) (c : ag.AS enI 1 R w0 lb lo V N) :
    Calls Try.prog 28 #[.slice (some ⟨lb, lo, none⟩) R lc] w0 fun e w' => e = .returned (.bool true) ∧ Fr (SV R V) w0 w' := by
  have hRl := c.rl
  obtain ⟨i0, hi0, hz0, hz1, hz2⟩ := info_parts infR23
  have HI := hide (And.intro hi0 (And.intro hz0 (And.intro hz1 hz2)))
  have C := hide c
  have S0 := hide (ag.M1.start (mk := mkL) c)
  clear c hi0 hz0 hz1 hz2
  go_enter Try.func28, Try.ntmps28
  go_wp2_with fail
  go_loopg [3] R (fun g t3 wr => ∃ (k : Nat), Hid (k + g = R) ∧ t3 = .int .i64 (k : Int) ∧ Hid (ag.M1 enI 1 mkL R w0 V N k 0 wr))
  case atStart => exact ⟨0, by unfold Hid; omega, rfl, unhide S0⟩
  case round =>
    clear S0
    obtain ⟨k, hk, rfl, hM⟩ := hrel
    by_cases hlt : k < R
    · obtain ⟨va, vc, hv⟩ := (unhide hM).shape hlt
      have HV := hide hv
      have k0 : (0 : Int) ≤ (k : Int) := by omega
      have k1 : (k : Int) < (R : Int) := by omega
      obtain ⟨n, hn⟩ : ∃ n, Hid (n = N k) := ⟨_, rfl⟩
      have hle : n ≤ 1048576 := by rw [unhide hn]; exact (unhide C).le k
      obtain ⟨G0, hG0⟩ : ∃ G0 : Nat, Hid (G0 = gk) := ⟨_, rfl⟩
      obtain ⟨KK, hKK⟩ : ∃ KK, Hid (1000003 * ((k : Int) + 1) = KK) := ⟨_, hide rfl⟩
      have ewp : IntKind.i64.wrap ((k : Int) + 1) = (k : Int) + 1 := by rw [IntKind.wrap_i64]; omega
      have ewk : IntKind.i64.wrap (1000003 * ((k : Int) + 1)) = KK := by have := unhide hKK; rw [IntKind.wrap_i64]; omega
      have HME : Hid (∀ z : Nat, mkL k z = KK + (z : Int)) := fun z => by unfold mkL; rw [unhide hKK]
      clear hv
      go_wp2_with fail
      go_loopg [4] n (fun g t4 wr => ∃ (i : Nat), Hid (i + g = n) ∧ t4 = .int .i64 (i : Int) ∧ Hid (ag.M1 enI 1 mkL R w0 V N k i wr))
      case atStart => exact ⟨0, by unfold Hid; omega, rfl, unhide hM⟩
      case round =>
        clear hM
        obtain ⟨i, hi, rfl, hM⟩ := hrel
        have cl := (unhide C).cellw (unhide hM).fr hlt
        rw [unhide HV, ← unhide hn] at cl
        have lbl : lb < wr.heap.size := World.block_lt_of_cell? _ _ cl
        by_cases hi2 : i < n
        · obtain ⟨g, off, cap, e, hg, hcx, cf, hN⟩ := (unhide hM).step zI (unhide C) hlt (by rw [← unhide hn]; exact hi2)
          rw [unhide HV] at e
          cases e
          obtain ⟨u0, c0⟩ := hcx 0 (by omega)
          rw [Nat.add_zero, Nat.mul_one] at c0
          have cf0 := cf (off + i)
          have ewi : IntKind.i64.wrap (KK + (i : Int)) = KK + (i : Int) := by have := unhide hKK; rw [IntKind.wrap_i64]; omega
          have HN : Hid (ag.M1 enI 1 mkL R w0 V N k (i + 1) (wr.setCell ⟨g, off + i, none⟩ (.int .i64 (KK + (i : Int))))) := by rw [Nat.mul_one] at hN; rw [← unhide HME i]; exact hN
          clear hcx
          have i1 : (0 : Int) ≤ (i : Int) := by omega
          have i2 : (i : Int) < (n : Int) := by omega
          clear hN cf
          go_wp2_with fail
          go_roundg (gk - 1)
          case measure => have := unhide hi; omega
          case rel => exact ⟨i + 1, by have := unhide hi; unfold Hid; omega, by go_num, HN⟩
        · have hin : i = n := by have := unhide hi; omega
          subst hin
          have HN : Hid (ag.M1 enI 1 mkL R w0 V N (k + 1) 0 wr) := by have q := unhide hM; rw [unhide hn] at q; exact q.next
          go_wp2_with fail
          go_roundg (G0 - 1)
          case measure => have h1 := unhide hG0; have h2 := unhide hk; omega
          case rel => exact ⟨k + 1, by have h1 := unhide hG0; have h2 := unhide hk; unfold Hid; omega, by go_num, HN⟩
    · have hk3 : R = k := by have := unhide hk; omega
      subst hk3
      have G3 := hide (ag.G1.start (te := 37) (unhide hM) (fun _ => .slice none 0 0))
      clear hM hlt
      go_wp2_with fail
      go_loopg [5, 6] R (fun g t5 t6 wr => ∃ (k : Nat) (cur : Nat → Value) (gs : Value), Hid (k + g = R) ∧ t5 = gs ∧ t6 = .int .i64 (k : Int) ∧ Hid (ag.G1 enI 1 mkL 37 R w0 V N k cur gs wr))
      case atStart => exact ⟨0, _, _, by unfold Hid; omega, rfl, rfl, unhide G3⟩
      case round =>
        clear G3
        obtain ⟨k, cur, gs, hk, hgs, rfl, hG⟩ := hrel
        by_cases hlt : k < R
        · obtain ⟨ga, gc, eg⟩ := row_shp (unhide hG).gr
          rw [eg] at hgs
          subst hgs
          subst eg
          have hO := hide ((unhide hG).open (unhide C) hlt)
          obtain ⟨va, vc, hv, hv1, hv2⟩ := ((unhide hG).ls k hlt).shape
          have HV := hide hv
          have k0 : (0 : Int) ≤ (k : Int) := by omega
          have k1 : (k : Int) < (R : Int) := by omega
          obtain ⟨n, hn⟩ : ∃ n, Hid (n = N k) := ⟨_, rfl⟩
          have hle : n ≤ 1048576 := by rw [unhide hn]; exact (unhide C).le k
          obtain ⟨G0, hG0⟩ : ∃ G0 : Nat, Hid (G0 = gk) := ⟨_, rfl⟩
          obtain ⟨KK, hKK⟩ : ∃ KK, Hid (1000003 * ((k : Int) + 1) = KK) := ⟨_, hide rfl⟩
          have ewp : IntKind.i64.wrap ((k : Int) + 1) = (k : Int) + 1 := by rw [IntKind.wrap_i64]; omega
          have ewk : IntKind.i64.wrap (1000003 * ((k : Int) + 1)) = KK := by have := unhide hKK; rw [IntKind.wrap_i64]; omega
          have HME : Hid (∀ z : Nat, mkL k z = KK + (z : Int)) := fun z => by unfold mkL; rw [unhide hKK]
          have cl := (unhide C).cellw (unhide hG).fr hlt
          rw [unhide HV, ← unhide hn] at cl
          have lbl : lb < wr.heap.size := World.block_lt_of_cell? _ _ cl
          clear hv hv1 hv2
          go_wp2_with fail
          go_loopg [7, 8] 64 (fun g t7 t8 wr => ∃ (i : Nat) (cv : Value), Hid (i + g = 64) ∧ t7 = cv ∧ t8 = .int .i64 (i : Int) ∧ Hid (ag.G2 enI 1 mkL 37 R w0 V N k i cv cur (.slice ga k gc) wr))
          case atStart => exact ⟨0, V k, by unfold Hid; omega, by rw [unhide HV, ← unhide hn], rfl, unhide hO⟩
          case round =>
            clear hO cl lbl
            obtain ⟨i, cv, hi, hcv, rfl, hGi⟩ := hrel
            have cl := (unhide C).cellw (unhide hGi).g1.fr hlt
            rw [unhide HV, ← unhide hn] at cl
            have lbl : lb < wr.heap.size := World.block_lt_of_cell? _ _ cl
            obtain ⟨ca, cc, ec, ec1, ec2⟩ := (unhide hGi).cc.shape
            rw [← unhide hn] at ec ec1
            rw [ec] at hcv
            subst hcv
            subst ec
            by_cases hi2 : i < 64
            · have HRo : Hid (Ro (wr.alloc (.cells #[.int .i64 (KK + (n : Int) + (i : Int))] 3)) 1 (.slice ca (n + i) cc) (ag.mks mkL k (n + i)).length (flt enI (ag.mks mkL k (n + i)))) := by
                have q := (unhide hGi).cc
                rw [← unhide hn] at q
                rw [ag.mks_length]
                exact Ro.fr (S := fun _ => False) q ((Fr.refl _ wr).alloc _) (fun _ _ e => e)
              have HTN := hide (new_cells wr #[.int .i64 (KK + (n : Int) + (i : Int))] 3)
              have HLN : Hid ((ag.mks mkL k (n + i)).length ≤ 8796093022207) := by rw [ag.mks_length]; unfold Hid; omega
              have j1 : (i : Int) < 64 := by omega
              have ewn : IntKind.i64.wrap (KK + (n : Int)) = KK + (n : Int) := by have := unhide hKK; rw [IntKind.wrap_i64]; omega
              have ewm : IntKind.i64.wrap (KK + (n : Int) + (i : Int)) = KK + (n : Int) + (i : Int) := by have := unhide hKK; rw [IntKind.wrap_i64]; omega
              go_wp2_with (first | (at_builtin; refine wpList_appLO rfl _ _ rfl _ (ag.mks mkL k (n + i)) rfl (unhide HRo) ⟨wr.heap.size, 0, none⟩ 1 (KK + (n : Int) + (i : Int)) rfl (unhide HTN) (unhide HLN) ?_))
              intro v' w' hr hg hat hold
              have HN : Hid (ag.G2 enI 1 mkL 37 R w0 V N k (i + 1) v' cur (.slice ga k gc) w') := by
                have q := (unhide hGi).step zI (w' := w') (v' := v') (X := .cells #[.int .i64 (KK + (n : Int) + (i : Int))] 3) (unhide C) hlt
                rw [← unhide hn] at q
                refine q ?_ hg ?_ ?_
                · have r := hr
                  simp only [List.length_append, ag.mks_length, List.length_cons, List.length_nil] at r
                  have e : mkL k (n + i) = KK + (n : Int) + (i : Int) := by rw [unhide HME]; omega
                  rw [e]
                  exact r
                · rcases hat with ⟨g, off, cap, ⟨e1, _, e3⟩, e4⟩ | e
                  · exact .inl ⟨g, off, cap, by rw [e1, e3], by rw [e4, ag.mks_length]⟩
                  · exact .inr (by simpa using e)
                · rw [ag.mks_length] at hold
                  exact hold
              clear hr hg hat hold
              go_wp2_with fail
              go_roundg (gk - 1)
              case measure => have := unhide hi; omega
              case rel => exact ⟨i + 1, v', by have := unhide hi; unfold Hid; omega, rfl, by go_num, HN⟩
            · have hi64 : i = 64 := by have := unhide hi; omega
              subst hi64
              have HO := hide (unhide hGi).g1.gr
              have hi0 := (unhide HI).1
              have hz0 := (unhide HI).2.1
              have hz1 := (unhide HI).2.2.1
              have hz2 := (unhide HI).2.2.2
              have HSZ : Hid (w0.heap.size ≤ wr.heap.size) := (unhide hGi).g1.fr.size
              go_wp2_with (first | (at_builtin; refine wpList_append_own_at _ rfl _ _ 30 rfl w0.heap.size 37 i0 (.slice none 0 0) 1 24 Try.underlying30 hi0 hz0 hz1 hz2 rfl (by decide) _ _ _ rfl ((unhide HO).alloc _) ⟨wr.heap.size, 0, none⟩ 1 1 [.slice ca (n + 64) cc] rfl rfl (cell_one_new _ _ _) (by simp [Value.oneCell']) (by unfold maxLen; omega) (by omega) (by have := unhide HSZ; simp; omega) ?_))
              intro gs' w2 hown' hgrow hnil hat
              have HN := hide ((unhide hGi).push (unhide C) hlt (X := _) hown' hgrow (by simpa using hat))
              clear hown' hgrow hnil hat hi0 hz0 hz1 hz2
              go_wp2_with fail
              go_roundg (G0 - 1)
              case measure => have h1 := unhide hG0; have h2 := unhide hk; omega
              case rel => exact ⟨k + 1, _, gs', by have h1 := unhide hG0; have h2 := unhide hk; unfold Hid; omega, rfl, by go_num, unhide HN⟩
        · have hk3 : R = k := by have := unhide hk; omega
          subst hk3
          obtain ⟨ga, gc, eg⟩ := row_shp (unhide hG).gr
          rw [eg] at hgs
          subst hgs
          subst eg
          have HF : Hid (Fr (SV R V) w0 wr) := (unhide hG).fr
          obtain ⟨Y, hY⟩ : ∃ Y, Hid (Y = wr) := ⟨_, rfl⟩
          rw [← unhide hY] at hG HF
          clear hlt
          go_wp2_with fail
          go_loopg [9] R (fun g t9 wq => ∃ (k : Nat), Hid (k + g = R) ∧ t9 = .int .i64 (k : Int) ∧ Hid (Below Y.heap.size Y wq))
          case atStart => exact ⟨0, by unfold Hid; omega, rfl, by rw [unhide hY]; exact Below.refl _ _⟩
          case round =>
            obtain ⟨k, hk, rfl, hB⟩ := hrel
            by_cases hlt : k < R
            · obtain ⟨n, hn⟩ : ∃ n, Hid (n = N k) := ⟨_, rfl⟩
              have hle : n ≤ 1048576 := by rw [unhide hn]; exact (unhide C).le k
              have k0 : (0 : Int) ≤ (k : Int) := by omega
              have k1 : (k : Int) < (R : Int) := by omega
              obtain ⟨KK, hKK⟩ : ∃ KK, Hid (1000003 * ((k : Int) + 1) = KK) := ⟨_, hide rfl⟩
              have ewp : IntKind.i64.wrap ((k : Int) + 1) = (k : Int) + 1 := by rw [IntKind.wrap_i64]; omega
              have ewk : IntKind.i64.wrap (1000003 * ((k : Int) + 1)) = KK := by have := unhide hKK; rw [IntKind.wrap_i64]; omega
              have HME : Hid (∀ z : Nat, mkL k z = KK + (z : Int)) := fun z => by unfold mkL; rw [unhide hKK]
              obtain ⟨G0, hG0⟩ : ∃ G0 : Nat, Hid (G0 = gk) := ⟨_, rfl⟩
              -- the row that has grown, and the row that came in
              have hcr := (unhide hG).cr k hlt
              rw [← unhide hn] at hcr
              obtain ⟨g, off, cap, eg, _, _, hgl, hgc⟩ := hcr.full (by omega)
              have hls := (unhide hG).ls k hlt
              obtain ⟨va, vc, ev, _, _⟩ := hls.shape
              have hgo := (unhide hG).gr
              have hgb : ∃ gb, ga = some ⟨gb, 0, none⟩ ∧ gb < Y.heap.size ∧ Y.cell? ⟨gb, k, none⟩ = some (cur k) := by
                rcases hgo.2 with ⟨_, q⟩ | ⟨gb, cp, cu, e, _⟩
                · omega
                · cases e
                  have hc := hgo.cells (g := gb) rfl k (cur k) (by simp [hlt])
                  rw [addr_add0] at hc
                  exact ⟨gb, rfl, (hgo.lt gb rfl).2, hc⟩
              obtain ⟨gb, rfl, hgbl, hgbc⟩ := hgb
              rw [eg] at hgbc
              have hlc := (unhide C).cellw (unhide HF) hlt
              rw [ev, ← unhide hn] at hlc
              have HLS : Hid (∀ i, i < n → ∃ b o, va = some ⟨b, o, none⟩ ∧ b < Y.heap.size ∧ Y.cell? ⟨b, o + i, none⟩ = some (.int .i64 (KK + (i : Int)))) := fun i hi => by
                rw [← unhide hn] at hls
                obtain ⟨b, o, cp, e, _, _, hb, hc⟩ := Rx.elem zI (l := ag.mks mkL k n) (by rw [ag.mks_length]; exact Rx.of_ro hls) (ag.mks_at mkL k n i hi)
                rw [ev, ← unhide hn, ag.mks_length] at e
                cases e
                have h0 := hc 0 _ rfl
                rw [Nat.add_zero, Nat.mul_one] at h0
                have h0 : Y.cell? _ = some (.int .i64 (mkL k i)) := h0
                rw [unhide HME] at h0
                exact ⟨b, o, rfl, hb, h0⟩
              have HGS : Hid (∀ i, i < n + 64 → Y.cell? ⟨g, off + i, none⟩ = some (.int .i64 (KK + (i : Int)))) := fun i hi => by
                obtain ⟨b, o, cp, e, _, _, hb, hc⟩ := Rx.elem zI (l := ag.mks mkL k (n + 64)) (by rw [ag.mks_length]; exact Rx.of_ro hcr) (ag.mks_at mkL k (n + 64) i hi)
                rw [eg, ag.mks_length] at e
                cases e
                have h0 := hc 0 _ rfl
                rw [Nat.add_zero, Nat.mul_one] at h0
                have h0 : Y.cell? _ = some (.int .i64 (mkL k i)) := h0
                rw [unhide HME] at h0
                exact h0
              have HA := hide (And.intro hgbc (And.intro hlc (And.intro hgl (And.intro hgbl ((unhide C).lbl hlt)))))
              clear hcr hls hgo hgbc hlc hgc ev eg
              go_wp2_with fail
              go_loopg [10] (n + 64) (fun g t10 wq => ∃ (i : Nat), Hid (i + g = n + 64) ∧ t10 = .int .i64 (i : Int) ∧ Hid (Below Y.heap.size Y wq))
              case atStart => exact ⟨0, by unfold Hid; omega, rfl, unhide hB⟩
              case round =>
                clear hB
                obtain ⟨i, hi, rfl, hB⟩ := hrel
                obtain ⟨a1, a2, a3, a4, a5⟩ := unhide HA
                have q1 := ((unhide hB).cell (p := ⟨gb, k, none⟩) a4).trans a1
                have hYl : lb < Y.heap.size := Nat.lt_of_lt_of_le a5 (unhide HF).size
                have q2 := ((unhide hB).cell (p := ⟨lb, lo + k, none⟩) hYl).trans a2
                have hsz := (unhide hB).size
                have l1 : gb < wr.heap.size := by omega
                have l2 : lb < wr.heap.size := by omega
                have l3 : g < wr.heap.size := by omega
                clear a1 a2
                by_cases hi2 : i < n + 64
                · have c0 := unhide HGS i hi2
                  have d0 := ((unhide hB).cell (p := ⟨g, off + i, none⟩) a3).trans c0
                  have i0 : (0 : Int) ≤ (i : Int) := by omega
                  have i1 : (i : Int) < (n : Int) + 64 := by omega
                  have ewi : IntKind.i64.wrap (KK + (i : Int)) = KK + (i : Int) := by have := unhide hKK; rw [IntKind.wrap_i64]; omega
                  have dq : ((KK + (i : Int) : Int) != KK + (i : Int)) = false := by simp
                  clear c0 a3 a4 a5 hYl
                  by_cases hi3 : i < n
                  · obtain ⟨b, o', rfl, hb, z0⟩ := unhide HLS i hi3
                    have hb2 : b < wr.heap.size := by omega
                    have y0 := ((unhide hB).cell (p := ⟨b, o' + i, none⟩) hb).trans z0
                    have i2 : (i : Int) < (n : Int) := by omega
                    clear z0 hb
                    go_wp2_with fail
                    go_roundg (gk - 1)
                    case measure => have := unhide hi; omega
                    case rel => exact ⟨i + 1, by have := unhide hi; unfold Hid; omega, by go_num, hB⟩
                  · have i2 : decide ((i : Int) < (n : Int)) = false := decide_eq_false (by omega)
                    have i3 : decide (i < n) = false := decide_eq_false (by omega)
                    go_wp2_with fail
                    go_roundg (gk - 1)
                    case measure => have := unhide hi; omega
                    case rel => exact ⟨i + 1, by have := unhide hi; unfold Hid; omega, by go_num, hB⟩
                · have hin : i = n + 64 := by have := unhide hi; omega
                  subst hin
                  clear a3 a4 a5 hYl
                  go_wp2_with fail
                  go_roundg (G0 - 1)
                  case measure => have h1 := unhide hG0; have h2 := unhide hk; omega
                  case rel => exact ⟨k + 1, by have h1 := unhide hG0; have h2 := unhide hk; unfold Hid; omega, by go_num, hB⟩
            · have hk3 : R = k := by have := unhide hk; omega
              subst hk3
              go_wp2_with fail
              go_ret
              refine ⟨rfl, (unhide HF).trans2 (Fr.of_below (S := fun _ => False) (unhide hB)) (fun _ _ e => e.elim)⟩

set_option linter.unusedVariables false
set_option linter.unusedSimpArgs false
def blCd (c : TC) (q : Nat) : Prop := c.1.v.ownBlock = some q ∨ ∃ x ∈ c.2, blB x q
/-- A code of one's own. -/
def CdP (w : World) (u : List Bk) (c : TC) : Prop := ∃ Z, OW enTB 3 (PB 0) blB Z w c.1.v u c.2
theorem stayCd : Stays CdP blCd := fun S w w' u c h f hS => by
  obtain ⟨Z, ho⟩ := h
  exact ⟨Z, ho.fr (stayB 0) f (fun k _ hk => hS k hk)⟩
def vI (t : TI) : List Value := t.1.av :: t.2.map ShR.v
def vT (ts : List TI) : List Value := ts.flatMap vI
def vX (X : List TB) : List Value := X.flatMap (fun x => vT x.2)
def vC (cs : List TC) : List Value := cs.flatMap (fun c => vX c.2)
def nX (X : List TB) : List Value := X.map (fun x => x.1.nv)
def nC (cs : List TC) : List Value := cs.flatMap (fun c => nX c.2)
/-- Two lists do not lie in one block. -/
def Ap2 (a b : Value) : Prop := ∀ q, a.ownBlock = some q → b.ownBlock ≠ some q
theorem pw_of {T : Type} {R : T → T → Prop} {l : List T} (h : ∀ (i j : Nat) (x y : T), i ≠ j → l[i]? = some x → l[j]? = some y → R x y) : l.Pairwise R := by
  rw [List.pairwise_iff_getElem]
  intro i j hi hj hij
  exact h i j _ _ (by omega) (List.getElem?_eq_getElem hi) (List.getElem?_eq_getElem hj)
theorem pw_at {T : Type} {R : T → T → Prop} {l : List T} (h : l.Pairwise R) (hs : ∀ x y, R x y → R y x) {i j : Nat} {x y : T} (hij : i ≠ j) (hx : l[i]? = some x) (hy : l[j]? = some y) : R x y := by
  rw [List.pairwise_iff_getElem] at h
  obtain ⟨hi, rfl⟩ := List.getElem?_eq_some_iff.1 hx
  obtain ⟨hj, rfl⟩ := List.getElem?_eq_some_iff.1 hy
  by_cases q : i < j
  · exact h i j hi hj q
  · exact hs _ _ (h j i hj hi (by omega))
theorem Ap2.symm {a b : Value} (h : Ap2 a b) : Ap2 b a := fun q hb ha => h q ha hb
theorem vI_bl {t : TI} {a : Value} (h : a ∈ vI t) {q : Nat} (hq : a.ownBlock = some q) : blT t q := by
  rcases List.mem_cons.1 h with rfl | h
  · exact .inl hq
  · obtain ⟨r, hr, rfl⟩ := List.mem_map.1 h
    exact .inr (.inr ⟨r, hr, hq⟩)
theorem vI_pw {w : World} {u : RIn} {t : TI} (h : InT w u t) : (vI t).Pairwise Ap2 := by
  refine List.pairwise_cons.2 ⟨fun b hb q ha hb2 => ?_, pw_of (fun i j x y hij hx hy q hq => ?_)⟩
  · obtain ⟨r, hr, rfl⟩ := List.mem_map.1 hb
    exact (h.asp r q hr hb2).1 ha
  · rw [List.getElem?_map] at hx hy
    cases hi : t.2[i]? with
    | none => rw [hi] at hx; cases hx
    | some r =>
      cases hj : t.2[j]? with
      | none => rw [hj] at hy; cases hy
      | some p =>
        rw [hi] at hx; rw [hj] at hy
        cases hx; cases hy
        exact h.ss i j r p q hij hi hj hq
theorem vT_bl {ts : List TI} {a : Value} (h : a ∈ vT ts) {q : Nat} (hq : a.ownBlock = some q) : ∃ t ∈ ts, blT t q := by
  obtain ⟨t, ht, h⟩ := List.mem_flatMap.1 h
  exact ⟨t, ht, vI_bl h hq⟩
theorem vT_pw {w : World} {v : Value} {us : List RIn} {ts : List TI} {Z : Nat → Prop} (h : OW enT 8 InT blT Z w v us ts) : (vT ts).Pairwise Ap2 := by
  refine List.pairwise_flatMap.2 ⟨fun t ht => ?_, pw_of (fun i j x y hij hx hy a ha b hb q qa qb => h.ap i j x y q hij hx hy (vI_bl ha qa) (vI_bl hb qb))⟩
  obtain ⟨i, hi, rfl⟩ := List.getElem_of_mem ht
  exact vI_pw (h.el i _ _ (List.getElem?_eq_getElem (by rw [← h.len]; exact hi)) (List.getElem?_eq_getElem hi))
theorem vX_bl {X : List TB} {a : Value} (h : a ∈ vX X) {q : Nat} (hq : a.ownBlock = some q) : ∃ x ∈ X, blB x q := by
  obtain ⟨x, hx, h⟩ := List.mem_flatMap.1 h
  exact ⟨x, hx, .inr (.inl (vT_bl h hq))⟩
theorem vX_pw {w : World} {v : Value} {us : List Bk} {X : List TB} {Z : Nat → Prop} (h : OW enTB 3 (PB 0) blB Z w v us X) : (vX X).Pairwise Ap2 := by
  refine List.pairwise_flatMap.2 ⟨fun x hx => ?_, pw_of (fun i j x y hij hx hy a ha b hb q qa qb => h.ap i j x y q hij hx hy (.inr (.inl (vT_bl ha qa))) (.inr (.inl (vT_bl hb qb))))⟩
  obtain ⟨i, hi, rfl⟩ := List.getElem_of_mem hx
  exact vT_pw (h.el i _ _ (List.getElem?_eq_getElem (by rw [← h.len]; exact hi)) (List.getElem?_eq_getElem hi)).ow
theorem nX_pw {w : World} {v : Value} {us : List Bk} {X : List TB} {Z : Nat → Prop} (h : OW enTB 3 (PB 0) blB Z w v us X) : (nX X).Pairwise Ap2 := by
  refine List.pairwise_map.2 (pw_of (fun i j x y hij hx hy q qa qb => h.ap i j x y q hij hx hy (.inr (.inr qa)) (.inr (.inr qb))))
theorem nX_bl {X : List TB} {a : Value} (h : a ∈ nX X) {q : Nat} (hq : a.ownBlock = some q) : ∃ x ∈ X, blB x q := by
  obtain ⟨x, hx, rfl⟩ := List.mem_map.1 h
  exact ⟨x, hx, .inr (.inr hq)⟩
section
variable {w w' : World} {v : Value} {us : List (List Bk)} {cs : List TC} {Z : Nat → Prop}
abbrev OWC (Z : Nat → Prop) (w : World) (v : Value) (us : List (List Bk)) (cs : List TC) : Prop := OW enTC 3 CdP blCd Z w v us cs
theorem vC_pw (h : OWC Z w v us cs) : (vC cs).Pairwise Ap2 := by
  refine List.pairwise_flatMap.2 ⟨fun c hc => ?_, pw_of (fun i j x y hij hx hy a ha b hb q qa qb => h.ap i j x y q hij hx hy (.inr (vX_bl ha qa)) (.inr (vX_bl hb qb)))⟩
  obtain ⟨i, hi, rfl⟩ := List.getElem_of_mem hc
  obtain ⟨Z', ho⟩ := h.el i _ _ (List.getElem?_eq_getElem (by rw [← h.len]; exact hi)) (List.getElem?_eq_getElem hi)
  exact vX_pw ho
theorem nC_pw (h : OWC Z w v us cs) : (nC cs).Pairwise Ap2 := by
  refine List.pairwise_flatMap.2 ⟨fun c hc => ?_, pw_of (fun i j x y hij hx hy a ha b hb q qa qb => h.ap i j x y q hij hx hy (.inr (nX_bl ha qa)) (.inr (nX_bl hb qb)))⟩
  obtain ⟨i, hi, rfl⟩ := List.getElem_of_mem hc
  obtain ⟨Z', ho⟩ := h.el i _ _ (List.getElem?_eq_getElem (by rw [← h.len]; exact hi)) (List.getElem?_eq_getElem hi)
  exact nX_pw ho
theorem vC_in (h : OWC Z w v us cs) {a : Value} (ha : a ∈ vC cs) {q : Nat} (hq : a.ownBlock = some q) : q < w.heap.size ∧ v.ownBlock ≠ some q ∧ ∃ c ∈ cs, ∃ x ∈ c.2, ∃ t ∈ x.2, a ∈ vI t := by
  obtain ⟨c, hc, ha2⟩ := List.mem_flatMap.1 ha
  obtain ⟨i, hi, rfl⟩ := List.getElem_of_mem hc
  have h1 := h.eb i _ q (List.getElem?_eq_getElem hi) (.inr (vX_bl ha2 hq))
  obtain ⟨x, hx, ha3⟩ := List.mem_flatMap.1 ha2
  obtain ⟨t, ht, ha4⟩ := List.mem_flatMap.1 ha3
  exact ⟨h1.2.1, h1.2.2, _, hc, x, hx, t, ht, ha4⟩
theorem nC_in (h : OWC Z w v us cs) {a : Value} (ha : a ∈ nC cs) {q : Nat} (hq : a.ownBlock = some q) : q < w.heap.size ∧ v.ownBlock ≠ some q ∧ ∃ c ∈ cs, ∃ x ∈ c.2, a = x.1.nv := by
  obtain ⟨c, hc, ha2⟩ := List.mem_flatMap.1 ha
  obtain ⟨i, hi, rfl⟩ := List.getElem_of_mem hc
  have h1 := h.eb i _ q (List.getElem?_eq_getElem hi) (.inr (nX_bl ha2 hq))
  obtain ⟨x, hx, rfl⟩ := List.mem_map.1 ha2
  exact ⟨h1.2.1, h1.2.2, _, hc, x, hx, rfl⟩
/-- The lists can be read. -/
def OkU (us : List (List Bk)) : Prop := ∀ u ∈ us, ∀ b ∈ u, b.nx.length ≤ 1048576 ∧ ∀ x ∈ b.ins, x.args.length ≤ 1048576 ∧ ∀ s ∈ x.ex, s.sl.length ≤ 1048576
theorem vI_ro {u : RIn} {t : TI} (h : InT w u t) (hk : u.args.length ≤ 1048576 ∧ ∀ s ∈ u.ex, s.sl.length ≤ 1048576) {a : Value} (ha : a ∈ vI t) : ∃ l : List Op, l.length ≤ 1048576 ∧ Ro w 2 a l.length (flt enO l) := by
  rcases List.mem_cons.1 ha with rfl | ha
  · exact ⟨_, hk.1, h.a⟩
  · obtain ⟨r, hr, rfl⟩ := List.mem_map.1 ha
    obtain ⟨j, hj, rfl⟩ := List.getElem_of_mem hr
    have hs : u.ex[j]? = some (u.ex[j]'(by rw [← h.len]; exact hj)) := List.getElem?_eq_getElem _
    exact ⟨_, hk.2 _ (List.mem_of_getElem? hs), (h.s j _ _ hs (List.getElem?_eq_getElem hj)).2.2⟩
theorem vC_ro (h : OWC Z w v us cs) (hk : OkU us) {a : Value} (ha : a ∈ vC cs) : ∃ l : List Op, l.length ≤ 1048576 ∧ Ro w 2 a l.length (flt enO l) := by
  obtain ⟨c, hc, ha2⟩ := List.mem_flatMap.1 ha
  obtain ⟨i, hi, rfl⟩ := List.getElem_of_mem hc
  have hu : us[i]? = some (us[i]'(by rw [← h.len]; exact hi)) := List.getElem?_eq_getElem _
  obtain ⟨Z', ho⟩ := h.el i _ _ hu (List.getElem?_eq_getElem hi)
  obtain ⟨x, hx, ha3⟩ := List.mem_flatMap.1 ha2
  obtain ⟨b, hb, rfl⟩ := List.getElem_of_mem hx
  have hb2 : (us[i]'(by rw [← h.len]; exact hi))[b]? = some _ := List.getElem?_eq_getElem (by rw [← ho.len]; exact hb)
  have hP := ho.el b _ _ hb2 (List.getElem?_eq_getElem hb)
  obtain ⟨t, ht, ha4⟩ := List.mem_flatMap.1 ha3
  obtain ⟨n, hn, rfl⟩ := List.getElem_of_mem ht
  have hn2 : (Bk.ins _)[n]? = some _ := List.getElem?_eq_getElem (l := Bk.ins _) (by rw [← hP.ow.len]; exact hn)
  exact vI_ro (hP.ow.el n _ _ hn2 (List.getElem?_eq_getElem hn)) ((hk _ (List.mem_of_getElem? hu) _ (List.mem_of_getElem? hb2)).2 _ (List.mem_of_getElem? hn2)) ha4
theorem nC_ro (h : OWC Z w v us cs) (hk : OkU us) {a : Value} (ha : a ∈ nC cs) : ∃ l : List Int, l.length ≤ 1048576 ∧ Ro w 1 a l.length (flt enI l) := by
  obtain ⟨c, hc, ha2⟩ := List.mem_flatMap.1 ha
  obtain ⟨i, hi, rfl⟩ := List.getElem_of_mem hc
  have hu : us[i]? = some (us[i]'(by rw [← h.len]; exact hi)) := List.getElem?_eq_getElem _
  obtain ⟨Z', ho⟩ := h.el i _ _ hu (List.getElem?_eq_getElem hi)
  obtain ⟨x, hx, rfl⟩ := List.mem_map.1 ha2
  obtain ⟨b, hb, rfl⟩ := List.getElem_of_mem hx
  have hb2 : (us[i]'(by rw [← h.len]; exact hi))[b]? = some _ := List.getElem?_eq_getElem (by rw [← ho.len]; exact hb)
  have hP := ho.el b _ _ hb2 (List.getElem?_eq_getElem hb)
  exact ⟨_, (hk _ (List.mem_of_getElem? hu) _ (List.mem_of_getElem? hb2)).1, hP.nx⟩
/-- Without operands and numbers: what apartLists asks. -/
theorem InT.ie {u : RIn} {t : TI} (h : InT w u t) : IEo w t :=
  ⟨by rw [h.len]; exact h.e, fun j r hr => by
    have hs : u.ex[j]? = some _ := List.getElem?_eq_getElem (by rw [← h.len]; exact (List.getElem?_eq_some_iff.1 hr).1)
    obtain ⟨a, c, e, _⟩ := (h.s j _ r hs hr).2.2.shape
    exact ⟨a, _, c, e⟩, AO.none _ _ _⟩
theorem PB.be {b : Nat} {u : Bk} {x : TB} (h : PB b w u x) : BEo w x :=
  ⟨by rw [h.ow.len]; exact h.ow.row, fun i t ht => (h.ow.el i _ t (List.getElem?_eq_getElem (by rw [← h.ow.len]; exact (List.getElem?_eq_some_iff.1 ht).1)) ht).ie,
    fun i t k ht hk => (h.ow.eb i t k ht (.inr (.inl hk))).2, fun i j t q k hij ht hq hk hk2 => h.ow.ap i j t q k hij ht hq (.inr (.inl hk)) (.inr (.inl hk2))⟩
theorem blF_B {x : TB} {q : Nat} (h : blF x q) : blB x q := by
  rcases h with h | ⟨t, ht, h⟩
  · exact .inl h
  · exact .inr (.inl ⟨t, ht, .inr (.inl h)⟩)
theorem blG_Cd {c : TC} {q : Nat} (h : blG c q) : blCd c q := by
  rcases h with h | ⟨x, hx, h⟩
  · exact .inl h
  · exact .inr ⟨x, hx, blF_B h⟩
theorem CdP.ce {u : List Bk} {c : TC} (h : CdP w u c) : CEo w c := by
  obtain ⟨Z', ho⟩ := h
  exact ⟨by rw [ho.len]; exact ho.row, fun i x hx => (ho.el i _ x (List.getElem?_eq_getElem (by rw [← ho.len]; exact (List.getElem?_eq_some_iff.1 hx).1)) hx).be,
    fun i x k hx hk => (ho.eb i x k hx (blF_B hk)).2, fun i j x y k hij hx hy hk hk2 => ho.ap i j x y k hij hx hy (blF_B hk) (blF_B hk2)⟩
theorem OWC.loc (h : OWC Z w v us cs) : LOC w v cs :=
  ⟨by rw [h.len]; exact h.row, fun i c hc => (h.el i _ c (List.getElem?_eq_getElem (by rw [← h.len]; exact (List.getElem?_eq_some_iff.1 hc).1)) hc).ce,
    fun i c k hc hk => (h.eb i c k hc (blG_Cd hk)).2, fun i j c d k hij hc hd hk hk2 => h.ap i j c d k hij hc hd (blG_Cd hk) (blG_Cd hk2)⟩
end
/-- The lists that are gathered: two rows of slices of one's own. -/
structure GL (w : World) (pO pN : List Value) (gO gN : Value) (wr : World) : Prop where
  o : Ro wr 1 gO pO.length (flt enV pO)
  n : Ro wr 1 gN pN.length (flt enV pN)
  bw : Below w.heap.size w wr
  ob : ∀ q, gO.ownBlock = some q → w.heap.size ≤ q
  nb : ∀ q, gN.ownBlock = some q → w.heap.size ≤ q
  ne : Ap2 gO gN
section
variable {w wr w1 w2 : World} {pO pN : List Value} {gO gN g' a : Value} {n : Nat}
theorem GL.start (w : World) : GL w [] [] (.slice none 0 0) (.slice none 0 0) w :=
  ⟨by simpa [flt] using Ro.nil w 1, by simpa [flt] using Ro.nil w 1, Below.refl _ _, (fun q e => by cases e), (fun q e => by cases e), (fun q e => by cases e)⟩
theorem GL.on (h : GL w pO pN gO gN wr) (f : Below wr.heap.size wr w1) : GL w pO pN gO gN w1 :=
  ⟨h.o.fr (Fr.of_below (S := fun _ => False) f) (fun _ _ e => e), h.n.fr (Fr.of_below (S := fun _ => False) f) (fun _ _ e => e), h.bw.trans (f.mono h.bw.size), h.ob, h.nb, h.ne⟩
theorem GL.pushO (h : GL w pO pN gO gN wr) (hb : Below wr.heap.size wr w1) (hr : Ro w2 1 g' n (flt enV pO ++ enV a)) (hn : n = pO.length + 1) (hg : w1.grownBy w2 gO.ownBlock) (hat : g'.ownBlock = gO.ownBlock ∨ g'.ownBlock = some w1.heap.size) : GL w (pO ++ [a]) pN g' gN w2 := by
  subst hn
  have hs := h.bw.size
  have hbs := hb.size
  have f : Fr (fun q => gO.ownBlock = some q) wr w2 := (Fr.of_below (S := fun q => gO.ownBlock = some q) hb).trans ((Fr.refl _ w1).grown hg (fun k e => .inr e))
  have own : ∀ q, g'.ownBlock = some q → gO.ownBlock = some q ∨ wr.heap.size ≤ q := fun q hq => by
    rcases hat with r | r
    · rw [r] at hq; exact .inl hq
    · rw [r] at hq; cases hq; exact .inr hbs
  refine ⟨by rw [List.length_append, flt_append, flt_one]; exact hr, h.n.fr f (fun q hq e => h.ne q e hq), h.bw.trans (f.below hs (fun k hk e => by have := h.ob k e; omega)), fun q hq => ?_, h.nb, fun q hq e => ?_⟩
  · rcases own q hq with r | r
    · exact h.ob q r
    · omega
  · rcases own q hq with r | r
    · exact h.ne q r e
    · have := h.n.lt q e; omega
theorem GL.pushN (h : GL w pO pN gO gN wr) (hb : Below wr.heap.size wr w1) (hr : Ro w2 1 g' n (flt enV pN ++ enV a)) (hn : n = pN.length + 1) (hg : w1.grownBy w2 gN.ownBlock) (hat : g'.ownBlock = gN.ownBlock ∨ g'.ownBlock = some w1.heap.size) : GL w pO (pN ++ [a]) gO g' w2 := by
  subst hn
  have hs := h.bw.size
  have hbs := hb.size
  have f : Fr (fun q => gN.ownBlock = some q) wr w2 := (Fr.of_below (S := fun q => gN.ownBlock = some q) hb).trans ((Fr.refl _ w1).grown hg (fun k e => .inr e))
  have own : ∀ q, g'.ownBlock = some q → gN.ownBlock = some q ∨ wr.heap.size ≤ q := fun q hq => by
    rcases hat with r | r
    · rw [r] at hq; exact .inl hq
    · rw [r] at hq; cases hq; exact .inr hbs
  refine ⟨h.o.fr f (fun q hq e => h.ne q hq e), by rw [List.length_append, flt_append, flt_one]; exact hr, h.bw.trans (f.below hs (fun k hk e => by have := h.nb k e; omega)), h.ob, fun q hq => ?_, fun q hq e => ?_⟩
  · rcases own q hq with r | r
    · exact h.nb q r
    · exact Nat.le_trans hs r
  · rcases own q e with r | r
    · exact h.ne q hq r
    · have := h.o.lt q hq; omega
end
/-- How long a slice is. -/
def slen : Value → Nat
  | .slice _ n _ => n
  | _ => 0
theorem flt_OP (l : List Op) : flt enO l = flt enP (l.map (fun o => (o.k, o.n))) := by
  induction l with
  | nil => rfl
  | cons p r ih => simp only [flt, List.flatMap_cons, List.map_cons] at ih ⊢; rw [ih]; rfl
end Go.Proofs.Ytiamoinhmkhaoaa
