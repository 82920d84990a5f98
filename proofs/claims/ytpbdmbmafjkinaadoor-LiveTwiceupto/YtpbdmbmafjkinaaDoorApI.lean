/-
  ApartInts: rows of numbers that lie apart, however many.
-/
import Derived.Test.YtpbdmbmafjkinaaDoorApg
namespace Go.Proofs.YtpbdmbmafjkinaaDoor
open Go.RowKit
set_option linter.unusedVariables false
set_option linter.unusedSimpArgs false
def mkL (k i : Nat) : Int := 1000003 * ((k : Int) + 1) + (i : Int)
theorem wpList_appLO {w : World} {ops : Array Oper} {rest : List Oper} {o : Oper} {a : Act} {Q : Exit → Act → World → Prop}
    (hg : o.guard = none) (s x : Operand) (hop : o.op = Op.call { callee := Callee.builtin Builtin.append, args := #[s, x], argTypes := #[25, 25] })
    (v : Value) (l : List Int) (hs : a.eval s = v) (hr : Ro w 1 v l.length (flt enI l)) (ad : Addr) (c : Nat) (k : Int) (hx : a.eval x = .slice (some ad) 1 c) (hc : ∀ j u, [Value.int .i64 k][j]? = some u → w.cell? (ad.add j) = some u)
    (hN : l.length ≤ 8796093022207)
    (hK : ∀ v' w', Ro w' 1 v' (l ++ [k]).length (flt enI (l ++ [k])) → w.grownBy w' v.ownBlock → ((∃ g off cap, v = .slice (some ⟨g, off, none⟩) l.length cap ∧ v' = .slice (some ⟨g, off, none⟩) (l.length + 1) cap) ∨ v'.ownBlock = some w.heap.size) → Ro w' 1 v l.length (flt enI l) → wpList Tryd.prog ops Q rest (a.put o.dst v') w') :
    wpList Tryd.prog ops Q (o :: rest) a w := by
  obtain ⟨i0, hi0, hz0, hz1, hz2⟩ := info_parts infI
  refine wpList_appO0 hg s x 25 hop 3 i0 _ 1 8 Tryd.underlying25 hi0 hz0 hz1 hz2 rfl (by decide) v l.length (flt enI l) hs hr ad 1 c [.int .i64 k] hx rfl hc (by simp [Value.oneCell']) (by omega) (by unfold maxLen; omega) (by omega) (fun v' w' r1 r2 r3 r4 => hK v' w' ?_ r2 r3 r4)
  rw [flt_append, List.length_append]
  exact r1
set_option maxRecDepth 100000 in
set_option maxHeartbeats 6000000 in
theorem apartI (R : Nat) (w0 : World) (lb lo lc : Nat) (V : Nat → Value) (N : Nat → Nat) (c : ag.AS enI 1 R w0 lb lo V N) :
    Calls Tryd.prog 12 #[.slice (some ⟨lb, lo, none⟩) R lc] w0 fun e w' => e = .returned (.bool true) ∧ Fr (SV R V) w0 w' := by
  have hRl := c.rl
  obtain ⟨i0, hi0, hz0, hz1, hz2⟩ := info_parts infR23
  have HI := hide (And.intro hi0 (And.intro hz0 (And.intro hz1 hz2)))
  have C := hide c
  have S0 := hide (ag.M1.start (mk := mkL) c)
  clear c hi0 hz0 hz1 hz2
  go_enter Tryd.func12, Tryd.ntmps12
  go_wp2_with fail
  go_loopg [3] R (fun g t3 wr => ∃ (k : Nat), Hid (k + g = R) ∧ t3 = .int .i64 (k : Int) ∧ Hid (ag.M1 enI 1 mkL R w0 V N k 0 wr))
  case atStart => exact ⟨0, by unfold Hid; omega, rfl, unhide S0⟩
  case round =>
    clear S0
    obtain ⟨k, hk, rfl, hM⟩ := hrel
    by_cases hlt : k < R
    · obtain ⟨va, vc, hv⟩ := (unhide hM).shape hlt
      have HV := hide hv
      have k0 : (0 : Int) ≤ (k : Int) := by omega
      have k1 : (k : Int) < (R : Int) := by omega
      obtain ⟨n, hn⟩ : ∃ n, Hid (n = N k) := ⟨_, rfl⟩
      have hle : n ≤ 1048576 := by rw [unhide hn]; exact (unhide C).le k
      obtain ⟨G0, hG0⟩ : ∃ G0 : Nat, Hid (G0 = gk) := ⟨_, rfl⟩
      obtain ⟨KK, hKK⟩ : ∃ KK, Hid (1000003 * ((k : Int) + 1) = KK) := ⟨_, hide rfl⟩
      have ewp : IntKind.i64.wrap ((k : Int) + 1) = (k : Int) + 1 := by rw [IntKind.wrap_i64]; omega
      have ewk : IntKind.i64.wrap (1000003 * ((k : Int) + 1)) = KK := by have := unhide hKK; rw [IntKind.wrap_i64]; omega
      have HME : Hid (∀ z : Nat, mkL k z = KK + (z : Int)) := fun z => by unfold mkL; rw [unhide hKK]
      clear hv
      go_wp2_with fail
      go_loopg [4] n (fun g t4 wr => ∃ (i : Nat), Hid (i + g = n) ∧ t4 = .int .i64 (i : Int) ∧ Hid (ag.M1 enI 1 mkL R w0 V N k i wr))
      case atStart => exact ⟨0, by unfold Hid; omega, rfl, unhide hM⟩
      case round =>
        clear hM
        obtain ⟨i, hi, rfl, hM⟩ := hrel
        have cl := (unhide C).cellw (unhide hM).fr hlt
        rw [unhide HV, ← unhide hn] at cl
        have lbl : lb < wr.heap.size := World.block_lt_of_cell? _ _ cl
        by_cases hi2 : i < n
        · obtain ⟨g, off, cap, e, hg, hcx, cf, hN⟩ := (unhide hM).step zI (unhide C) hlt (by rw [← unhide hn]; exact hi2)
          rw [unhide HV] at e
          cases e
          obtain ⟨u0, c0⟩ := hcx 0 (by omega)
          rw [Nat.add_zero, Nat.mul_one] at c0
          have cf0 := cf (off + i)
          have ewi : IntKind.i64.wrap (KK + (i : Int)) = KK + (i : Int) := by have := unhide hKK; rw [IntKind.wrap_i64]; omega
          have HN : Hid (ag.M1 enI 1 mkL R w0 V N k (i + 1) (wr.setCell ⟨g, off + i, none⟩ (.int .i64 (KK + (i : Int))))) := by rw [Nat.mul_one] at hN; rw [← unhide HME i]; exact hN
          clear hcx
          have i1 : (0 : Int) ≤ (i : Int) := by omega
          have i2 : (i : Int) < (n : Int) := by omega
          clear hN cf
          go_wp2_with fail
          go_roundg (gk - 1)
          case measure => have := unhide hi; omega
          case rel => exact ⟨i + 1, by have := unhide hi; unfold Hid; omega, by go_num, HN⟩
        · have hin : i = n := by have := unhide hi; omega
          subst hin
          have HN : Hid (ag.M1 enI 1 mkL R w0 V N (k + 1) 0 wr) := by have q := unhide hM; rw [unhide hn] at q; exact q.next
          go_wp2_with fail
          go_roundg (G0 - 1)
          case measure => have h1 := unhide hG0; have h2 := unhide hk; omega
          case rel => exact ⟨k + 1, by have h1 := unhide hG0; have h2 := unhide hk; unfold Hid; omega, by go_num, HN⟩
    · have hk3 : R = k := by have := unhide hk; omega
      subst hk3
      have G3 := hide (ag.G1.start (te := 25) (unhide hM) (fun _ => .slice none 0 0))
      clear hM hlt
      go_wp2_with fail
      go_loopg [5, 6] R (fun g t5 t6 wr => ∃ (k : Nat) (cur : Nat → Value) (gs : Value), Hid (k + g = R) ∧ t5 = gs ∧ t6 = .int .i64 (k : Int) ∧ Hid (ag.G1 enI 1 mkL 25 R w0 V N k cur gs wr))
      case atStart => exact ⟨0, _, _, by unfold Hid; omega, rfl, rfl, unhide G3⟩
      case round =>
        clear G3
        obtain ⟨k, cur, gs, hk, hgs, rfl, hG⟩ := hrel
        by_cases hlt : k < R
        · obtain ⟨ga, gc, eg⟩ := row_shp (unhide hG).gr
          rw [eg] at hgs
          subst hgs
          subst eg
          have hO := hide ((unhide hG).open (unhide C) hlt)
          obtain ⟨va, vc, hv, hv1, hv2⟩ := ((unhide hG).ls k hlt).shape
          have HV := hide hv
          have k0 : (0 : Int) ≤ (k : Int) := by omega
          have k1 : (k : Int) < (R : Int) := by omega
          obtain ⟨n, hn⟩ : ∃ n, Hid (n = N k) := ⟨_, rfl⟩
          have hle : n ≤ 1048576 := by rw [unhide hn]; exact (unhide C).le k
          obtain ⟨G0, hG0⟩ : ∃ G0 : Nat, Hid (G0 = gk) := ⟨_, rfl⟩
          obtain ⟨KK, hKK⟩ : ∃ KK, Hid (1000003 * ((k : Int) + 1) = KK) := ⟨_, hide rfl⟩
          have ewp : IntKind.i64.wrap ((k : Int) + 1) = (k : Int) + 1 := by rw [IntKind.wrap_i64]; omega
          have ewk : IntKind.i64.wrap (1000003 * ((k : Int) + 1)) = KK := by have := unhide hKK; rw [IntKind.wrap_i64]; omega
          have HME : Hid (∀ z : Nat, mkL k z = KK + (z : Int)) := fun z => by unfold mkL; rw [unhide hKK]
          have cl := (unhide C).cellw (unhide hG).fr hlt
          rw [unhide HV, ← unhide hn] at cl
          have lbl : lb < wr.heap.size := World.block_lt_of_cell? _ _ cl
          clear hv hv1 hv2
          go_wp2_with fail
          go_loopg [7, 8] 64 (fun g t7 t8 wr => ∃ (i : Nat) (cv : Value), Hid (i + g = 64) ∧ t7 = cv ∧ t8 = .int .i64 (i : Int) ∧ Hid (ag.G2 enI 1 mkL 25 R w0 V N k i cv cur (.slice ga k gc) wr))
          case atStart => exact ⟨0, V k, by unfold Hid; omega, by rw [unhide HV, ← unhide hn], rfl, unhide hO⟩
          case round =>
            clear hO cl lbl
            obtain ⟨i, cv, hi, hcv, rfl, hGi⟩ := hrel
            have cl := (unhide C).cellw (unhide hGi).g1.fr hlt
            rw [unhide HV, ← unhide hn] at cl
            have lbl : lb < wr.heap.size := World.block_lt_of_cell? _ _ cl
            obtain ⟨ca, cc, ec, ec1, ec2⟩ := (unhide hGi).cc.shape
            rw [← unhide hn] at ec ec1
            rw [ec] at hcv
            subst hcv
            subst ec
            by_cases hi2 : i < 64
            · have HRo : Hid (Ro (wr.alloc (.cells #[.int .i64 (KK + (n : Int) + (i : Int))] 3)) 1 (.slice ca (n + i) cc) (ag.mks mkL k (n + i)).length (flt enI (ag.mks mkL k (n + i)))) := by
                have q := (unhide hGi).cc
                rw [← unhide hn] at q
                rw [ag.mks_length]
                exact Ro.fr (S := fun _ => False) q ((Fr.refl _ wr).alloc _) (fun _ _ e => e)
              have HTN := hide (new_cells wr #[.int .i64 (KK + (n : Int) + (i : Int))] 3)
              have HLN : Hid ((ag.mks mkL k (n + i)).length ≤ 8796093022207) := by rw [ag.mks_length]; unfold Hid; omega
              have j1 : (i : Int) < 64 := by omega
              have ewn : IntKind.i64.wrap (KK + (n : Int)) = KK + (n : Int) := by have := unhide hKK; rw [IntKind.wrap_i64]; omega
              have ewm : IntKind.i64.wrap (KK + (n : Int) + (i : Int)) = KK + (n : Int) + (i : Int) := by have := unhide hKK; rw [IntKind.wrap_i64]; omega
              go_wp2_with (first | (at_builtin; refine wpList_appLO rfl _ _ rfl _ (ag.mks mkL k (n + i)) rfl (unhide HRo) ⟨wr.heap.size, 0, none⟩ 1 (KK + (n : Int) + (i : Int)) rfl (unhide HTN) (unhide HLN) ?_))
              intro v' w' hr hg hat hold
              have HN : Hid (ag.G2 enI 1 mkL 25 R w0 V N k (i + 1) v' cur (.slice ga k gc) w') := by
                have q := (unhide hGi).step zI (w' := w') (v' := v') (X := .cells #[.int .i64 (KK + (n : Int) + (i : Int))] 3) (unhide C) hlt
                rw [← unhide hn] at q
                refine q ?_ hg ?_ ?_
                · have r := hr
                  simp only [List.length_append, ag.mks_length, List.length_cons, List.length_nil] at r
                  have e : mkL k (n + i) = KK + (n : Int) + (i : Int) := by rw [unhide HME]; omega
                  rw [e]
                  exact r
                · rcases hat with ⟨g, off, cap, ⟨e1, _, e3⟩, e4⟩ | e
                  · exact .inl ⟨g, off, cap, by rw [e1, e3], by rw [e4, ag.mks_length]⟩
                  · exact .inr (by simpa using e)
                · rw [ag.mks_length] at hold
                  exact hold
              clear hr hg hat hold
              go_wp2_with fail
              go_roundg (gk - 1)
              case measure => have := unhide hi; omega
              case rel => exact ⟨i + 1, v', by have := unhide hi; unfold Hid; omega, rfl, by go_num, HN⟩
            · have hi64 : i = 64 := by have := unhide hi; omega
              subst hi64
              have HO := hide (unhide hGi).g1.gr
              have hi0 := (unhide HI).1
              have hz0 := (unhide HI).2.1
              have hz1 := (unhide HI).2.2.1
              have hz2 := (unhide HI).2.2.2
              have HSZ : Hid (w0.heap.size ≤ wr.heap.size) := (unhide hGi).g1.fr.size
              go_wp2_with (first | (at_builtin; refine wpList_append_own_at _ rfl _ _ 31 rfl w0.heap.size 25 i0 (.slice none 0 0) 1 24 Tryd.underlying31 hi0 hz0 hz1 hz2 rfl (by decide) _ _ _ rfl ((unhide HO).alloc _) ⟨wr.heap.size, 0, none⟩ 1 1 [.slice ca (n + 64) cc] rfl rfl (cell_one_new _ _ _) (by simp [Value.oneCell']) (by unfold maxLen; omega) (by omega) (by have := unhide HSZ; simp; omega) ?_))
              intro gs' w2 hown' hgrow hnil hat
              have HN := hide ((unhide hGi).push (unhide C) hlt (X := _) hown' hgrow (by simpa using hat))
              clear hown' hgrow hnil hat hi0 hz0 hz1 hz2
              go_wp2_with fail
              go_roundg (G0 - 1)
              case measure => have h1 := unhide hG0; have h2 := unhide hk; omega
              case rel => exact ⟨k + 1, _, gs', by have h1 := unhide hG0; have h2 := unhide hk; unfold Hid; omega, rfl, by go_num, unhide HN⟩
        · have hk3 : R = k := by have := unhide hk; omega
          subst hk3
          obtain ⟨ga, gc, eg⟩ := row_shp (unhide hG).gr
          rw [eg] at hgs
          subst hgs
          subst eg
          have HF : Hid (Fr (SV R V) w0 wr) := (unhide hG).fr
          obtain ⟨Y, hY⟩ : ∃ Y, Hid (Y = wr) := ⟨_, rfl⟩
          rw [← unhide hY] at hG HF
          clear hlt
          go_wp2_with fail
          go_loopg [9] R (fun g t9 wq => ∃ (k : Nat), Hid (k + g = R) ∧ t9 = .int .i64 (k : Int) ∧ Hid (Below Y.heap.size Y wq))
          case atStart => exact ⟨0, by unfold Hid; omega, rfl, by rw [unhide hY]; exact Below.refl _ _⟩
          case round =>
            obtain ⟨k, hk, rfl, hB⟩ := hrel
            by_cases hlt : k < R
            · obtain ⟨n, hn⟩ : ∃ n, Hid (n = N k) := ⟨_, rfl⟩
              have hle : n ≤ 1048576 := by rw [unhide hn]; exact (unhide C).le k
              have k0 : (0 : Int) ≤ (k : Int) := by omega
              have k1 : (k : Int) < (R : Int) := by omega
              obtain ⟨KK, hKK⟩ : ∃ KK, Hid (1000003 * ((k : Int) + 1) = KK) := ⟨_, hide rfl⟩
              have ewp : IntKind.i64.wrap ((k : Int) + 1) = (k : Int) + 1 := by rw [IntKind.wrap_i64]; omega
              have ewk : IntKind.i64.wrap (1000003 * ((k : Int) + 1)) = KK := by have := unhide hKK; rw [IntKind.wrap_i64]; omega
              have HME : Hid (∀ z : Nat, mkL k z = KK + (z : Int)) := fun z => by unfold mkL; rw [unhide hKK]
              obtain ⟨G0, hG0⟩ : ∃ G0 : Nat, Hid (G0 = gk) := ⟨_, rfl⟩
              -- the row that has grown, and the row that came in
              have hcr := (unhide hG).cr k hlt
              rw [← unhide hn] at hcr
              obtain ⟨g, off, cap, eg, _, _, hgl, hgc⟩ := hcr.full (by omega)
              have hls := (unhide hG).ls k hlt
              obtain ⟨va, vc, ev, _, _⟩ := hls.shape
              have hgo := (unhide hG).gr
              have hgb : ∃ gb, ga = some ⟨gb, 0, none⟩ ∧ gb < Y.heap.size ∧ Y.cell? ⟨gb, k, none⟩ = some (cur k) := by
                rcases hgo.2 with ⟨_, q⟩ | ⟨gb, cp, cu, e, _⟩
                · omega
                · cases e
                  have hc := hgo.cells (g := gb) rfl k (cur k) (by simp [hlt])
                  rw [addr_add0] at hc
                  exact ⟨gb, rfl, (hgo.lt gb rfl).2, hc⟩
              obtain ⟨gb, rfl, hgbl, hgbc⟩ := hgb
              rw [eg] at hgbc
              have hlc := (unhide C).cellw (unhide HF) hlt
              rw [ev, ← unhide hn] at hlc
              have HLS : Hid (∀ i, i < n → ∃ b o, va = some ⟨b, o, none⟩ ∧ b < Y.heap.size ∧ Y.cell? ⟨b, o + i, none⟩ = some (.int .i64 (KK + (i : Int)))) := fun i hi => by
                rw [← unhide hn] at hls
                obtain ⟨b, o, cp, e, _, _, hb, hc⟩ := Rx.elem zI (l := ag.mks mkL k n) (by rw [ag.mks_length]; exact Rx.of_ro hls) (ag.mks_at mkL k n i hi)
                rw [ev, ← unhide hn, ag.mks_length] at e
                cases e
                have h0 := hc 0 _ rfl
                rw [Nat.add_zero, Nat.mul_one] at h0
                have h0 : Y.cell? _ = some (.int .i64 (mkL k i)) := h0
                rw [unhide HME] at h0
                exact ⟨b, o, rfl, hb, h0⟩
              have HGS : Hid (∀ i, i < n + 64 → Y.cell? ⟨g, off + i, none⟩ = some (.int .i64 (KK + (i : Int)))) := fun i hi => by
                obtain ⟨b, o, cp, e, _, _, hb, hc⟩ := Rx.elem zI (l := ag.mks mkL k (n + 64)) (by rw [ag.mks_length]; exact Rx.of_ro hcr) (ag.mks_at mkL k (n + 64) i hi)
                rw [eg, ag.mks_length] at e
                cases e
                have h0 := hc 0 _ rfl
                rw [Nat.add_zero, Nat.mul_one] at h0
                have h0 : Y.cell? _ = some (.int .i64 (mkL k i)) := h0
                rw [unhide HME] at h0
                exact h0
              have HA := hide (And.intro hgbc (And.intro hlc (And.intro hgl (And.intro hgbl ((unhide C).lbl hlt)))))
              clear hcr hls hgo hgbc hlc hgc ev eg
              go_wp2_with fail
              go_loopg [10] (n + 64) (fun g t10 wq => ∃ (i : Nat), Hid (i + g = n + 64) ∧ t10 = .int .i64 (i : Int) ∧ Hid (Below Y.heap.size Y wq))
              case atStart => exact ⟨0, by unfold Hid; omega, rfl, unhide hB⟩
              case round =>
                clear hB
                obtain ⟨i, hi, rfl, hB⟩ := hrel
                obtain ⟨a1, a2, a3, a4, a5⟩ := unhide HA
                have q1 := ((unhide hB).cell (p := ⟨gb, k, none⟩) a4).trans a1
                have hYl : lb < Y.heap.size := Nat.lt_of_lt_of_le a5 (unhide HF).size
                have q2 := ((unhide hB).cell (p := ⟨lb, lo + k, none⟩) hYl).trans a2
                have hsz := (unhide hB).size
                have l1 : gb < wr.heap.size := by omega
                have l2 : lb < wr.heap.size := by omega
                have l3 : g < wr.heap.size := by omega
                clear a1 a2
                by_cases hi2 : i < n + 64
                · have c0 := unhide HGS i hi2
                  have d0 := ((unhide hB).cell (p := ⟨g, off + i, none⟩) a3).trans c0
                  have i0 : (0 : Int) ≤ (i : Int) := by omega
                  have i1 : (i : Int) < (n : Int) + 64 := by omega
                  have ewi : IntKind.i64.wrap (KK + (i : Int)) = KK + (i : Int) := by have := unhide hKK; rw [IntKind.wrap_i64]; omega
                  have dq : ((KK + (i : Int) : Int) != KK + (i : Int)) = false := by simp
                  clear c0 a3 a4 a5 hYl
                  by_cases hi3 : i < n
                  · obtain ⟨b, o', rfl, hb, z0⟩ := unhide HLS i hi3
                    have hb2 : b < wr.heap.size := by omega
                    have y0 := ((unhide hB).cell (p := ⟨b, o' + i, none⟩) hb).trans z0
                    have i2 : (i : Int) < (n : Int) := by omega
                    clear z0 hb
                    go_wp2_with fail
                    go_roundg (gk - 1)
                    case measure => have := unhide hi; omega
                    case rel => exact ⟨i + 1, by have := unhide hi; unfold Hid; omega, by go_num, hB⟩
                  · have i2 : decide ((i : Int) < (n : Int)) = false := decide_eq_false (by omega)
                    have i3 : decide (i < n) = false := decide_eq_false (by omega)
                    go_wp2_with fail
                    go_roundg (gk - 1)
                    case measure => have := unhide hi; omega
                    case rel => exact ⟨i + 1, by have := unhide hi; unfold Hid; omega, by go_num, hB⟩
                · have hin : i = n + 64 := by have := unhide hi; omega
                  subst hin
                  clear a3 a4 a5 hYl
                  go_wp2_with fail
                  go_roundg (G0 - 1)
                  case measure => have h1 := unhide hG0; have h2 := unhide hk; omega
                  case rel => exact ⟨k + 1, by have h1 := unhide hG0; have h2 := unhide hk; unfold Hid; omega, by go_num, hB⟩
            · have hk3 : R = k := by have := unhide hk; omega
              subst hk3
              go_wp2_with fail
              go_ret
              refine ⟨rfl, (unhide HF).trans2 (Fr.of_below (S := fun _ => False) (unhide hB)) (fun _ _ e => e.elim)⟩
end Go.Proofs.YtpbdmbmafjkinaaDoor
