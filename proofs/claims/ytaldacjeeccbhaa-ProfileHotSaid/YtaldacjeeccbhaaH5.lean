/-
  The document's Hot.
-/
import Derived.Test.YtaldacjeeccbhaaH4
namespace Go.Proofs.Ytaldacjeeccbhaa
open Go.RowKit
set_option linter.unusedVariables false
set_option linter.unusedSimpArgs false
def enB (b : Bool) : List Value := [.bool b]
theorem infB' : (Try.prog.info? 4).map (fun i => (i.zero, i.size, i.bytes)) = some (some (.bool false), 1, 1) := by kernel_rfl
theorem appB' {w : World} {ops : Array Oper} {rest : List Oper} {o : Oper} {a : Act} {Q : Exit → Act → World → Prop}
    (hg : o.guard = none) (s x : Operand) (hop : o.op = Op.call { callee := Callee.builtin Builtin.append, args := #[s, x], argTypes := #[52, 52] })
    (v : Value) (l : List Bool) (hs : a.eval s = v) (hr : Ro w 1 v l.length (flt enB l)) (ad : Addr) (c : Nat) (p : Bool) (hx : a.eval x = .slice (some ad) 1 c) (hc : ∀ j u, (enB p)[j]? = some u → w.cell? (ad.add j) = some u)
    (hN : l.length ≤ 5864062014700)
    (hK : ∀ v' w', Ro w' 1 v' (l.length + 1) (flt enB l ++ enB p) → w.grownBy w' v.ownBlock → (v'.ownBlock = v.ownBlock ∨ v'.ownBlock = some w.heap.size) → wpList Try.prog ops Q rest (a.put o.dst v') w') :
    wpList Try.prog ops Q (o :: rest) a w := by
  obtain ⟨i0, hi0, hz0, hz1, hz2⟩ := info_parts infB'
  exact wpList_app hg s x 52 hop 4 i0 _ 1 1 Try.underlying52 hi0 hz0 hz1 hz2 rfl (by decide) v l.length (flt enB l) hs hr ad 1 c (enB p) hx rfl hc (by simp [enB, Value.oneCell']) (by omega) (by unfold maxLen; omega) (by omega) hK
/-- Two rows of one's own. -/
structure H7 (w : World) (vO vL : Value) (out : List Bool) (l : List Int) (wr : World) : Prop where
  ro : Ro wr 1 vO out.length (flt enB out)
  rl : Ro wr 1 vL l.length (flt enN l)
  bl : Below w.heap.size w wr
  bo : ∀ k, vO.ownBlock = some k → w.heap.size ≤ k
  bn : ∀ k, vL.ownBlock = some k → w.heap.size ≤ k
  ap : ∀ k, vO.ownBlock = some k → vL.ownBlock ≠ some k
theorem H7.mk1 {w wr w' : World} {vO vL : Value} {out : List Bool} {l : List Int} (h : H7 w vO vL out l wr) (k : Below wr.heap.size wr w') : H7 w vO vL out l w' :=
  ⟨h.ro.fr (Fr.of_below (S := fun _ => False) k) (fun _ _ e => e), h.rl.fr (Fr.of_below (S := fun _ => False) k) (fun _ _ e => e), bl_past h.bl k, h.bo, h.bn, h.ap⟩
theorem H7.push {w wr w' : World} {vO vL v' : Value} {out : List Bool} {l : List Int} {p : Int} {X : Obj} {m : Nat} (h : H7 w vO vL out l wr) (hr : Ro w' 1 v' m (flt enN l ++ enN p)) (hm : m = l.length + 1) (hg : (wr.alloc X).grownBy w' vL.ownBlock) (hat : v'.ownBlock = vL.ownBlock ∨ v'.ownBlock = some (wr.alloc X).heap.size) : H7 w vO v' out (l ++ [p]) w' := by
  have g := Gx.push (w := w) (en := enN) ⟨h.rl, h.bl, h.bn⟩ hr hm hg hat
  have f : Fr (fun k => vL.ownBlock = some k) wr w' := ((Fr.refl _ wr).alloc X).grown hg (fun k e => .inr e)
  refine ⟨h.ro.fr f (fun k hk e => h.ap k hk e), g.1, g.2.1, h.bo, g.2.2, fun k hk e => ?_⟩
  rcases hat with q | q
  · exact h.ap k hk (q ▸ e)
  · rw [q] at e
    cases e
    have := h.ro.lt _ hk
    simp at this
    omega
theorem H7.put {w wr : World} {vL : Value} {out : List Bool} {l : List Int} {g off cap n : Nat} (h : H7 w (.slice (some ⟨g, off, none⟩) n cap) vL out l wr) (hn : out.length = n) {i : Nat} (hi : i < n) : H7 w (.slice (some ⟨g, off, none⟩) n cap) vL (out.set i true) l (wr.setCells g (off + i) [.bool true]) := by
  have hro := h.ro
  rw [hn] at hro
  obtain ⟨r1, r2⟩ := hro.putAt (en := enB) (fun _ => rfl) hn rfl hi true
  rw [Nat.mul_one] at r1 r2
  exact ⟨by rw [List.length_set, hn]; exact r1, h.rl.fr r2 (fun k hk e => h.ap g rfl (e ▸ hk)), h.bl.trans (r2.below h.bl.size (fun k hk e => by have := h.bo g rfl; omega)), h.bo, h.bn, h.ap⟩
theorem H7.at {w wr : World} {vL : Value} {out : List Bool} {l : List Int} {g off cap n : Nat} (h : H7 w (.slice (some ⟨g, off, none⟩) n cap) vL out l wr) (hn : out.length = n) {j : Nat} {b : Bool} (hb : out[j]? = some b) : wr.cell? ⟨g, off + j, none⟩ = some (.bool b) ∧ g < wr.heap.size ∧ wr.frozen? ⟨g, off + j, none⟩ = false := by
  have hj := (List.getElem?_eq_some_iff.1 hb).1
  obtain ⟨_, _, _, e, _, _, _, hc⟩ := h.ro.full (by omega)
  cases e
  have hq := flt_at (en := enB) (sz := 1) (fun _ => rfl) hb 0 (by omega)
  simp [enB] at hq
  exact ⟨(hc j (by omega)).trans hq, h.ro.lt g rfl, h.ro.free rfl _⟩
set_option maxRecDepth 100000 in
set_option maxHeartbeats 6400000 in
theorem refHot_any {w : World} {av : Value} {f : List (List Sp)} (ha : PfV w av f) (hN : f.length ≤ 5864062014634) (least : Int) :
    Calls Try.prog 7 #[.agg #[av], .int .i64 least] w fun e w' => ∃ v', e = .returned v' ∧ Gx w 1 enN (hotS f least) v' w' := by
  obtain ⟨a, acap, rfl, ha1, ha2⟩ := ha.shape
  have HA := hide (fun W (hW : Below w.heap.size w W) => ha.below hW (Nat.le_refl _))
  unfold maxLen at ha2
  clear ha
  obtain ⟨L, hL⟩ : ∃ L, Hid (f.length = L) := ⟨_, hide rfl⟩
  rw [unhide hL] at ha1 hN HA ⊢
  have HBX := hide (heap_alloc_new w (.cells #[.slice a L acap] 24))
  have HB0 := hide (box1 w (.slice a L acap) 24)
  have HG0 : Hid (Gx (w.alloc (.cells #[.slice a L acap] 24)) 1 enB (ob f least 0) (.slice none 0 0) (w.alloc (.cells #[.slice a L acap] 24))) := ⟨by simpa [ob, flt] using Ro.nil _ _, Below.refl _ _, by simp [Value.ownBlock]⟩
  obtain ⟨W0, hW0⟩ : ∃ W0, Hid (w.alloc (.cells #[.slice a L acap] 24) = W0) := ⟨_, hide rfl⟩
  have hW0s : W0.heap.size = w.heap.size + 1 := by rw [← unhide hW0]; simp
  have HEV : Hid (∀ W, Below W0.heap.size W0 W → Below w.heap.size w W ∧ W.cell? ⟨w.heap.size, 0, none⟩ = some (.slice a L acap) ∧ w.heap.size < W.heap.size) := fun W hW => by
    have h1 := unhide HBX
    rw [unhide hW0] at h1
    have h2 := unhide HB0
    rw [unhide hW0] at h2
    obtain ⟨c, -, z⟩ := blk_cells ((hW.block _ (by omega)).trans h1)
    exact ⟨bl_past h2 hW, c 0, z⟩
  have HG1 : Hid (Gx W0 1 enB (ob f least 0) (.slice none 0 0) W0) := by have := unhide HG0; rw [unhide hW0] at this; exact this
  have hW0s' := hide hW0s
  clear HG0 HBX HB0 hW0s
  have hfl := fld0
  go_enter Try.func7, Try.ntmps7
  go_wp2_with fail
  rw [unhide hW0]
  go_loopg [6, 7] L (fun gg t6 t7 wr => ∃ (i : Nat) (v : Value), Hid (i + gg = L) ∧ t6 = v ∧ t7 = .int .i64 (i : Int) ∧ Hid (Gx W0 1 enB (ob f least i) v wr))
  case atStart => exact ⟨0, _, by unfold Hid; omega, rfl, rfl, HG1⟩
  case round =>
    clear HG1
    obtain ⟨i, v, hi, hv, rfl, hG⟩ := hrel
    have hv2 := hv.symm
    subst hv2
    clear hv
    obtain ⟨bw, q0, z0⟩ := unhide HEV wr (unhide hG).2.1
    have HBW := hide bw
    clear bw
    by_cases hlt : i < L
    · have i0 : (0 : Int) ≤ (i : Int) := by omega
      have i1 : (i : Int) < (L : Int) := by omega
      have HAT := hide (refAt_any (unhide HA wr (unhide HBW)) (i : Int) 0)
      obtain ⟨xs, hxs⟩ : ∃ s, Hid (atP f (i : Int) 0 = s) := ⟨_, hide rfl⟩
      rw [unhide hxs] at HAT
      have hcn : Hid (cn0 f (i : Int) = xs.c) := by unfold Hid cn0; rw [unhide hxs]
      obtain ⟨x0, x1, x2, x3⟩ := xs
      unfold spV at HAT
      simp only at HAT hcn
      go_wp2_with fail
      refine (unhide HAT).mono ?_
      rintro e w1 ⟨rfl, b1⟩
      have HG1 := hide (Gx.mk1 (unhide hG) b1)
      clear b1 hG HAT q0 z0
      have HRo := hide (unhide HG1).1
      have HLB : Hid ((ob f least i).length ≤ 5864062014700) := by rw [ob_len]; unfold Hid; omega
      have HNX : Hid (ob f least (i + 1) = ob f least i ++ [decide (x0 < least)]) := by unfold Hid; rw [ob_succ, unhide hcn]
      go_wp2_with (first | (at_builtin; refine appB' rfl _ _ rfl _ (ob f least i) rfl ((unhide HRo).keep (fun g hg => Below.heap_alloc _ _ _ ((unhide HRo).lt g hg))) ⟨w1.heap.size, 0, none⟩ 1 (decide (x0 < least)) rfl (new_cells _ _ _) (unhide HLB) ?_))
      intro v' w' hr hg hat
      have HG2 := hide ((unhide HG1).push hr rfl hg (by simpa using hat))
      rw [← unhide HNX] at HG2
      clear hr hg hat HRo HLB HG1
      go_wp2_with fail
      go_roundg (gk - 1)
      case measure => have := unhide hi; omega
      case rel => exact ⟨i + 1, v', by have := unhide hi; unfold Hid; omega, rfl, by go_num, HG2⟩
    · have hiL : i = L := by have := unhide hi; omega
      subst hiL
      have HH7 : Hid (H7 W0 v (.slice none 0 0) (ob f least i) [] wr) := ⟨(unhide hG).1, by simpa [flt] using Ro.nil _ _, (unhide hG).2.1, (unhide hG).2.2, by simp [Value.ownBlock], by simp [Value.ownBlock]⟩
      have HHI : Hid (HI f least (ob f least i) [] 0) := by have := HI.start f least; rw [unhide hL] at this; exact this
      clear hG
      go_wp2_with fail
      clear q0 z0 HBW
      go_loopg [5, 29] i (fun gg t5 t29 wr => ∃ (k : Nat) (l : List Int) (out : List Bool) (u : Value), Hid (k + gg = i) ∧ t5 = u ∧ t29 = .int .i64 (k : Int) ∧ Hid (HI f least out l k) ∧ Hid (H7 W0 v u out l wr))
      case atStart => exact ⟨0, [], _, _, by unfold Hid; omega, rfl, rfl, HHI, HH7⟩
      case round =>
        clear HHI HH7
        obtain ⟨k, l, out, u, hk, hu, rfl, hHI, hH⟩ := hrel
        have hu2 := hu.symm
        subst hu2
        clear hu
        obtain ⟨bw, q0, z0⟩ := unhide HEV _ (unhide hH).bl
        by_cases hlt2 : k < i
        · obtain ⟨G0, hG0⟩ : ∃ G0, Hid (gk = G0) := ⟨_, hide rfl⟩
          have hlen : out.length = i := (unhide hHI).len.trans (unhide hL)
          obtain ⟨g, oo, oc, ev, hc1, hc2, hc3, hc4⟩ := (unhide hH).ro.full (by omega)
          rw [hlen] at ev hc1
          subst ev
          have HST : Hid (∀ W (n : Nat) (b : Bool), out[n]? = some b → H7 W0 (.slice (some ⟨g, oo, none⟩) i oc) u out l W → W.cell? ⟨w.heap.size, 0, none⟩ = some (.slice a i acap) ∧ W.cell? ⟨g, oo + n, none⟩ = some (.bool b)) := fun W n b hb hW => ⟨(unhide HEV W hW.bl).2.1, (hW.at hlen hb).1⟩
          have k0 : (0 : Int) ≤ (k : Int) := by omega
          have k1 : (k : Int) < (i : Int) := by omega
          clear bw hc2 hc3 hc4
          have HLN := hide hlen
          clear hlen
          go_wp2_with fail
          clear q0 z0
          go_loopg [8, 9] i (fun gg t8 t9 wr => ∃ (n : Nat), Hid (n + gg = i) ∧ t8 = .int .i64 (bst f out n) ∧ t9 = .int .i64 (n : Int) ∧ Hid (H7 W0 (.slice (some ⟨g, oo, none⟩) i oc) u out l wr))
          case atStart => exact ⟨0, by unfold Hid; omega, rfl, rfl, hH⟩
          case round =>
            clear hH
            obtain ⟨n, hn, hB1, rfl, hH⟩ := hrel
            obtain ⟨B, hB⟩ : ∃ B, Hid (bst f out n = B) := ⟨_, hide rfl⟩
            rw [unhide hB] at hB1
            subst hB1
            obtain ⟨-, q0, z0⟩ := unhide HEV _ (unhide hH).bl
            by_cases hlt3 : n < i
            · have i0 : (0 : Int) ≤ (n : Int) := by omega
              have i1 : (n : Int) < (i : Int) := by omega
              obtain ⟨b, hb⟩ : ∃ b, out[n]? = some b := ⟨_, List.getElem?_eq_getElem (by rw [unhide HLN]; exact hlt3)⟩
              obtain ⟨V, hV⟩ : ∃ V, Hid (wr.drew = V) := ⟨_, hide rfl⟩
              have HGV : Hid (H7 W0 (.slice (some ⟨g, oo, none⟩) i oc) u out l V) := by rw [← unhide hV]; exact (unhide hH).mk1 (bl_drew wr)
              clear hH
              cases b with
              | true =>
                have HNX : Hid (bst f out (n + 1) = B) := by unfold Hid bst; rw [if_neg (fun q => by rw [hb] at q; simp at q), unhide hB]
                have HSV := hide (unhide HST _ n true hb (unhide HGV))
                have HSD := HSV
                rw [← unhide hV] at HSD
                clear hb
                go_wp2_with fail
                refine wp_region_held_drew (S := (fun W => W.cell? ⟨w.heap.size, 0, none⟩ = some (.slice a i acap) ∧ W.cell? ⟨g, oo + n, none⟩ = some (.bool true))) (by kernel_rfl) (unhide HSD) (fun hHeld => ?_)
                clear hHeld
                rw [unhide hV]
                refine wpAnyH_take (i := 0) (oi := _) (v := .slice (some ⟨g, oo, none⟩) i oc) rfl (by kernel_rfl) (by kernel_rfl) (by kernel_rfl) (fun _ _ _ h => h) (Or.inl ⟨by rfl, (by intro w' hSw; obtain ⟨s0, s1⟩ := hSw; go_simp)⟩) (unhide HSV) ?_
                go_simp
                refine wpAnyH_take (i := 1) (oi := _) (v := .int .i64 (n : Int)) rfl (by kernel_rfl) (by kernel_rfl) (by kernel_rfl) (fun _ _ _ h => h) (Or.inl ⟨by rfl, (by intro w' hSw; obtain ⟨s0, s1⟩ := hSw; go_simp)⟩) (unhide HSV) ?_
                go_simp
                refine wpAnyH_take (i := 2) (oi := _) (v := .pointer (some ⟨g, oo + n, none⟩)) rfl (by kernel_rfl) (by kernel_rfl) (by kernel_rfl) (fun _ _ _ h => h) (Or.inl ⟨by rfl, (by intro w' hSw; obtain ⟨s0, s1⟩ := hSw; go_simp)⟩) (unhide HSV) ?_
                go_simp
                refine wpAnyH_take (i := 3) (oi := _) (v := .bool true) rfl (by kernel_rfl) (by kernel_rfl) (by kernel_rfl) (fun _ _ _ h => h) (Or.inl ⟨by rfl, (by intro w' hSw; obtain ⟨s0, s1⟩ := hSw; go_simp)⟩) (unhide HSV) ?_
                go_simp
                refine wpAnyH_take (i := 4) (oi := _) (v := .bool false) rfl (by kernel_rfl) (by kernel_rfl) (by kernel_rfl) (fun _ _ _ h => h) (Or.inl ⟨by rfl, (by intro w' hSw; obtain ⟨s0, s1⟩ := hSw; go_simp)⟩) (unhide HSV) ?_
                go_simp
                refine wpAnyH_take (i := 5) (oi := _) (v := .bool false) rfl (by kernel_rfl) (by kernel_rfl) (by kernel_rfl) (fun _ _ _ h => h) (Or.inl ⟨by rfl, (by intro w' hSw; obtain ⟨s0, s1⟩ := hSw; go_simp)⟩) (unhide HSV) ?_
                go_simp
                refine wpAnyH_take (i := 6) (oi := _) (v := undef) rfl (by kernel_rfl) (by kernel_rfl) (by kernel_rfl) (fun _ _ _ h => h) (Or.inr ⟨by rfl, rfl⟩) (unhide HSV) ?_
                go_simp
                refine wpAnyH_take (i := 7) (oi := _) (v := undef) rfl (by kernel_rfl) (by kernel_rfl) (by kernel_rfl) (fun _ _ _ h => h) (Or.inr ⟨by rfl, rfl⟩) (unhide HSV) ?_
                go_simp
                refine wpAnyH_take (i := 8) (oi := _) (v := undef) rfl (by kernel_rfl) (by kernel_rfl) (by kernel_rfl) (fun _ _ _ h => h) (Or.inr ⟨by rfl, rfl⟩) (unhide HSV) ?_
                go_simp
                refine wpAnyH_take (i := 9) (oi := _) (v := undef) rfl (by kernel_rfl) (by kernel_rfl) (by kernel_rfl) (fun _ _ _ h => h) (Or.inr ⟨by rfl, rfl⟩) (unhide HSV) ?_
                go_simp
                refine wpAnyH_take (i := 10) (oi := _) (v := undef) rfl (by kernel_rfl) (by kernel_rfl) (by kernel_rfl) (fun _ _ _ h => h) (Or.inr ⟨by rfl, rfl⟩) (unhide HSV) ?_
                go_simp
                refine wpAnyH_take (i := 13) (oi := _) (v := undef) rfl (by kernel_rfl) (by kernel_rfl) (by kernel_rfl) (fun _ _ _ h => h) (Or.inr ⟨by rfl, rfl⟩) (unhide HSV) ?_
                go_simp
                refine wpAnyH_take (i := 14) (oi := _) (v := undef) rfl (by kernel_rfl) (by kernel_rfl) (by kernel_rfl) (fun _ _ _ h => h) (Or.inr ⟨by rfl, rfl⟩) (unhide HSV) ?_
                go_simp
                refine wpAnyH_ready (rs := [11]) (by kernel_rfl) (by simp) ?_
                refine AllReadyH.cons (o := _) rfl (fun K hK => ?_) AllReadyH.nil
                go_simp
                refine hK.out _ _ (unhide HSV) (fun _ => ?_)
                clear hK K
                go_simp
                refine wpAnyH_take (i := 12) (oi := _) (v := undef) rfl (by kernel_rfl) (by kernel_rfl) (by kernel_rfl) (fun _ _ _ h => h) (Or.inr ⟨by rfl, rfl⟩) (unhide HSV) ?_
                go_simp
                refine wpAnyH_ready (rs := [15]) (by kernel_rfl) (by simp) ?_
                refine AllReadyH.cons (o := _) rfl (fun K hK => ?_) AllReadyH.nil
                go_simp
                refine hK.out _ _ (unhide HSV) (fun _ => ?_)
                clear hK K
                go_simp
                refine wpAnyH_take (i := 16) (oi := _) (v := undef) rfl (by kernel_rfl) (by kernel_rfl) (by kernel_rfl) (fun _ _ _ h => h) (Or.inr ⟨by rfl, rfl⟩) (unhide HSV) ?_
                go_simp
                refine wpAnyH_take (i := 17) (oi := _) (v := undef) rfl (by kernel_rfl) (by kernel_rfl) (by kernel_rfl) (fun _ _ _ h => h) (Or.inr ⟨by rfl, rfl⟩) (unhide HSV) ?_
                go_simp
                refine wpAnyH_take (i := 18) (oi := _) (v := undef) rfl (by kernel_rfl) (by kernel_rfl) (by kernel_rfl) (fun _ _ _ h => h) (Or.inr ⟨by rfl, rfl⟩) (unhide HSV) ?_
                go_simp
                refine wpAnyH_take (i := 19) (oi := _) (v := .bool false) rfl (by kernel_rfl) (by kernel_rfl) (by kernel_rfl) (fun _ _ _ h => h) (Or.inl ⟨by rfl, (by intro w' hSw; obtain ⟨s0, s1⟩ := hSw; go_simp)⟩) (unhide HSV) ?_
                go_simp
                refine wpAnyH_done (by kernel_rfl) ?_ _
                go_wp2_with fail
                go_roundg (gk - 1)
                case measure => have := unhide hn; omega
                case rel => exact ⟨n + 1, by have := unhide hn; unfold Hid; omega, by rw [unhide HNX], by go_num, HGV⟩
              | false =>
                by_cases hB0 : B < 0
                · have HNX : Hid (bst f out (n + 1) = (n : Int)) := by unfold Hid bst; rw [unhide hB, if_pos ⟨hb, .inl hB0⟩]
                  have dB : decide (B < 0) = true := decide_eq_true hB0
                  have HSV := hide (unhide HST _ n false hb (unhide HGV))
                  have HSD := HSV
                  rw [← unhide hV] at HSD
                  clear hb
                  go_wp2_with fail
                  refine wp_region_held_drew (S := (fun W => W.cell? ⟨w.heap.size, 0, none⟩ = some (.slice a i acap) ∧ W.cell? ⟨g, oo + n, none⟩ = some (.bool false))) (by kernel_rfl) (unhide HSD) (fun hHeld => ?_)
                  clear hHeld
                  rw [unhide hV]
                  refine wpAnyH_take (i := 0) (oi := _) (v := .slice (some ⟨g, oo, none⟩) i oc) rfl (by kernel_rfl) (by kernel_rfl) (by kernel_rfl) (fun _ _ _ h => h) (Or.inl ⟨by rfl, (by intro w' hSw; obtain ⟨s0, s1⟩ := hSw; go_simp)⟩) (unhide HSV) ?_
                  go_simp
                  refine wpAnyH_take (i := 1) (oi := _) (v := .int .i64 (n : Int)) rfl (by kernel_rfl) (by kernel_rfl) (by kernel_rfl) (fun _ _ _ h => h) (Or.inl ⟨by rfl, (by intro w' hSw; obtain ⟨s0, s1⟩ := hSw; go_simp)⟩) (unhide HSV) ?_
                  go_simp
                  refine wpAnyH_take (i := 2) (oi := _) (v := .pointer (some ⟨g, oo + n, none⟩)) rfl (by kernel_rfl) (by kernel_rfl) (by kernel_rfl) (fun _ _ _ h => h) (Or.inl ⟨by rfl, (by intro w' hSw; obtain ⟨s0, s1⟩ := hSw; go_simp)⟩) (unhide HSV) ?_
                  go_simp
                  refine wpAnyH_take (i := 3) (oi := _) (v := .bool false) rfl (by kernel_rfl) (by kernel_rfl) (by kernel_rfl) (fun _ _ _ h => h) (Or.inl ⟨by rfl, (by intro w' hSw; obtain ⟨s0, s1⟩ := hSw; go_simp)⟩) (unhide HSV) ?_
                  go_simp
                  refine wpAnyH_take (i := 4) (oi := _) (v := .bool true) rfl (by kernel_rfl) (by kernel_rfl) (by kernel_rfl) (fun _ _ _ h => h) (Or.inl ⟨by rfl, (by intro w' hSw; obtain ⟨s0, s1⟩ := hSw; go_simp)⟩) (unhide HSV) ?_
                  go_simp
                  refine wpAnyH_take (i := 5) (oi := _) (v := .bool true) rfl (by kernel_rfl) (by kernel_rfl) (by kernel_rfl) (fun _ _ _ h => h) (Or.inl ⟨by rfl, (by intro w' hSw; obtain ⟨s0, s1⟩ := hSw; go_simp)⟩) (unhide HSV) ?_
                  go_simp
                  refine wpAnyH_take (i := 6) (oi := _) (v := .int .i64 B) rfl (by kernel_rfl) (by kernel_rfl) (by kernel_rfl) (fun _ _ _ h => h) (Or.inl ⟨by rfl, (by intro w' hSw; obtain ⟨s0, s1⟩ := hSw; go_simp)⟩) (unhide HSV) ?_
                  go_simp
                  refine wpAnyH_take (i := 7) (oi := _) (v := .bool true) rfl (by kernel_rfl) (by kernel_rfl) (by kernel_rfl) (fun _ _ _ h => h) (Or.inl ⟨by rfl, (by intro w' hSw; obtain ⟨s0, s1⟩ := hSw; go_simp)⟩) (unhide HSV) ?_
                  go_simp
                  refine wpAnyH_take (i := 8) (oi := _) (v := .bool true) rfl (by kernel_rfl) (by kernel_rfl) (by kernel_rfl) (fun _ _ _ h => h) (Or.inl ⟨by rfl, (by intro w' hSw; obtain ⟨s0, s1⟩ := hSw; go_simp)⟩) (unhide HSV) ?_
                  go_simp
                  refine wpAnyH_take (i := 9) (oi := _) (v := undef) rfl (by kernel_rfl) (by kernel_rfl) (by kernel_rfl) (fun _ _ _ h => h) (Or.inr ⟨by rfl, rfl⟩) (unhide HSV) ?_
                  go_simp
                  refine wpAnyH_take (i := 10) (oi := _) (v := undef) rfl (by kernel_rfl) (by kernel_rfl) (by kernel_rfl) (fun _ _ _ h => h) (Or.inr ⟨by rfl, rfl⟩) (unhide HSV) ?_
                  go_simp
                  refine wpAnyH_take (i := 13) (oi := _) (v := undef) rfl (by kernel_rfl) (by kernel_rfl) (by kernel_rfl) (fun _ _ _ h => h) (Or.inr ⟨by rfl, rfl⟩) (unhide HSV) ?_
                  go_simp
                  refine wpAnyH_take (i := 14) (oi := _) (v := undef) rfl (by kernel_rfl) (by kernel_rfl) (by kernel_rfl) (fun _ _ _ h => h) (Or.inr ⟨by rfl, rfl⟩) (unhide HSV) ?_
                  go_simp
                  refine wpAnyH_ready (rs := [11]) (by kernel_rfl) (by simp) ?_
                  refine AllReadyH.cons (o := _) rfl (fun K hK => ?_) AllReadyH.nil
                  go_simp
                  refine hK.out _ _ (unhide HSV) (fun _ => ?_)
                  clear hK K
                  go_simp
                  refine wpAnyH_take (i := 12) (oi := _) (v := undef) rfl (by kernel_rfl) (by kernel_rfl) (by kernel_rfl) (fun _ _ _ h => h) (Or.inr ⟨by rfl, rfl⟩) (unhide HSV) ?_
                  go_simp
                  refine wpAnyH_ready (rs := [15]) (by kernel_rfl) (by simp) ?_
                  refine AllReadyH.cons (o := _) rfl (fun K hK => ?_) AllReadyH.nil
                  go_simp
                  refine hK.out _ _ (unhide HSV) (fun _ => ?_)
                  clear hK K
                  go_simp
                  refine wpAnyH_take (i := 16) (oi := _) (v := undef) rfl (by kernel_rfl) (by kernel_rfl) (by kernel_rfl) (fun _ _ _ h => h) (Or.inr ⟨by rfl, rfl⟩) (unhide HSV) ?_
                  go_simp
                  refine wpAnyH_take (i := 17) (oi := _) (v := undef) rfl (by kernel_rfl) (by kernel_rfl) (by kernel_rfl) (fun _ _ _ h => h) (Or.inr ⟨by rfl, rfl⟩) (unhide HSV) ?_
                  go_simp
                  refine wpAnyH_take (i := 18) (oi := _) (v := .bool true) rfl (by kernel_rfl) (by kernel_rfl) (by kernel_rfl) (fun _ _ _ h => h) (Or.inl ⟨by rfl, (by intro w' hSw; obtain ⟨s0, s1⟩ := hSw; go_simp)⟩) (unhide HSV) ?_
                  go_simp
                  refine wpAnyH_take (i := 19) (oi := _) (v := .bool true) rfl (by kernel_rfl) (by kernel_rfl) (by kernel_rfl) (fun _ _ _ h => h) (Or.inl ⟨by rfl, (by intro w' hSw; obtain ⟨s0, s1⟩ := hSw; go_simp)⟩) (unhide HSV) ?_
                  go_simp
                  refine wpAnyH_done (by kernel_rfl) ?_ _
                  go_wp2_with fail
                  go_roundg (gk - 1)
                  case measure => have := unhide hn; omega
                  case rel => exact ⟨n + 1, by have := unhide hn; unfold Hid; omega, by rw [unhide HNX], by go_num, HGV⟩
                · have dB : decide (B < 0) = false := decide_eq_false hB0
                  have HSV := hide (unhide HST _ n false hb (unhide HGV))
                  have HSD := HSV
                  rw [← unhide hV] at HSD
                  have HOB := hide hb
                  have HAT1 := hide (refAt_any (unhide HA V (unhide HEV V (unhide HGV).bl).1) (n : Int) 0)
                  have HAT2' := hide (fun W (hW : H7 W0 (.slice (some ⟨g, oo, none⟩) i oc) u out l W) => refAt_any (unhide HA W (unhide HEV W hW.bl).1) B 0)
                  obtain ⟨xs, hxs⟩ : ∃ s, Hid (atP f (n : Int) 0 = s) := ⟨_, hide rfl⟩
                  obtain ⟨ys, hys⟩ : ∃ s, Hid (atP f B 0 = s) := ⟨_, hide rfl⟩
                  rw [unhide hxs] at HAT1
                  rw [unhide hys] at HAT2'
                  have hcx : Hid (cn0 f (n : Int) = xs.c) := by unfold Hid cn0; rw [unhide hxs]
                  have hcy : Hid (cn0 f B = ys.c) := by unfold Hid cn0; rw [unhide hys]
                  obtain ⟨x0, x1, x2, x3⟩ := xs
                  obtain ⟨y0, y1, y2, y3⟩ := ys
                  unfold spV at HAT1 HAT2'
                  simp only at HAT1 HAT2' hcx hcy
                  by_cases hC : y0 < x0
                  · have HNX : Hid (bst f out (n + 1) = (n : Int)) := by unfold Hid bst; rw [unhide hB, if_pos ⟨hb, .inr (by rw [unhide hcx, unhide hcy]; exact hC)⟩]
                    have dC : decide (y0 < x0) = true := by simpa using hC
                    clear hb hC
                    go_wp2_with fail
                    refine wp_region_held_drew (S := (fun W => W.cell? ⟨w.heap.size, 0, none⟩ = some (.slice a i acap) ∧ W.cell? ⟨g, oo + n, none⟩ = some (.bool false))) (by kernel_rfl) (unhide HSD) (fun hHeld => ?_)
                    clear hHeld
                    rw [unhide hV]
                    refine wpAnyH_take (i := 0) (oi := _) (v := .slice (some ⟨g, oo, none⟩) i oc) rfl (by kernel_rfl) (by kernel_rfl) (by kernel_rfl) (fun _ _ _ h => h) (Or.inl ⟨by rfl, (by intro w' hSw; obtain ⟨s0, s1⟩ := hSw; go_simp)⟩) (unhide HSV) ?_
                    go_simp
                    refine wpAnyH_take (i := 1) (oi := _) (v := .int .i64 (n : Int)) rfl (by kernel_rfl) (by kernel_rfl) (by kernel_rfl) (fun _ _ _ h => h) (Or.inl ⟨by rfl, (by intro w' hSw; obtain ⟨s0, s1⟩ := hSw; go_simp)⟩) (unhide HSV) ?_
                    go_simp
                    refine wpAnyH_take (i := 2) (oi := _) (v := .pointer (some ⟨g, oo + n, none⟩)) rfl (by kernel_rfl) (by kernel_rfl) (by kernel_rfl) (fun _ _ _ h => h) (Or.inl ⟨by rfl, (by intro w' hSw; obtain ⟨s0, s1⟩ := hSw; go_simp)⟩) (unhide HSV) ?_
                    go_simp
                    refine wpAnyH_take (i := 3) (oi := _) (v := .bool false) rfl (by kernel_rfl) (by kernel_rfl) (by kernel_rfl) (fun _ _ _ h => h) (Or.inl ⟨by rfl, (by intro w' hSw; obtain ⟨s0, s1⟩ := hSw; go_simp)⟩) (unhide HSV) ?_
                    go_simp
                    refine wpAnyH_take (i := 4) (oi := _) (v := .bool true) rfl (by kernel_rfl) (by kernel_rfl) (by kernel_rfl) (fun _ _ _ h => h) (Or.inl ⟨by rfl, (by intro w' hSw; obtain ⟨s0, s1⟩ := hSw; go_simp)⟩) (unhide HSV) ?_
                    go_simp
                    refine wpAnyH_take (i := 5) (oi := _) (v := .bool true) rfl (by kernel_rfl) (by kernel_rfl) (by kernel_rfl) (fun _ _ _ h => h) (Or.inl ⟨by rfl, (by intro w' hSw; obtain ⟨s0, s1⟩ := hSw; go_simp)⟩) (unhide HSV) ?_
                    go_simp
                    refine wpAnyH_take (i := 6) (oi := _) (v := .int .i64 B) rfl (by kernel_rfl) (by kernel_rfl) (by kernel_rfl) (fun _ _ _ h => h) (Or.inl ⟨by rfl, (by intro w' hSw; obtain ⟨s0, s1⟩ := hSw; go_simp)⟩) (unhide HSV) ?_
                    go_simp
                    refine wpAnyH_take (i := 7) (oi := _) (v := .bool false) rfl (by kernel_rfl) (by kernel_rfl) (by kernel_rfl) (fun _ _ _ h => h) (Or.inl ⟨by rfl, (by intro w' hSw; obtain ⟨s0, s1⟩ := hSw; go_simp)⟩) (unhide HSV) ?_
                    go_simp
                    refine wpAnyH_take (i := 8) (oi := _) (v := .bool false) rfl (by kernel_rfl) (by kernel_rfl) (by kernel_rfl) (fun _ _ _ h => h) (Or.inl ⟨by rfl, (by intro w' hSw; obtain ⟨s0, s1⟩ := hSw; go_simp)⟩) (unhide HSV) ?_
                    go_simp
                    refine wpAnyH_take (i := 9) (oi := _) (v := .agg #[.slice a i acap]) rfl (by kernel_rfl) (by kernel_rfl) (by kernel_rfl) (fun _ _ _ h => h) (Or.inl ⟨by rfl, (by intro w' hSw; obtain ⟨s0, s1⟩ := hSw; go_simp)⟩) (unhide HSV) ?_
                    go_simp
                    refine wpAnyH_take (i := 10) (oi := _) (v := .int .i64 (n : Int)) rfl (by kernel_rfl) (by kernel_rfl) (by kernel_rfl) (fun _ _ _ h => h) (Or.inl ⟨by rfl, (by intro w' hSw; obtain ⟨s0, s1⟩ := hSw; go_simp)⟩) (unhide HSV) ?_
                    go_simp
                    refine wpAnyH_take (i := 13) (oi := _) (v := .agg #[.slice a i acap]) rfl (by kernel_rfl) (by kernel_rfl) (by kernel_rfl) (fun _ _ _ h => h) (Or.inl ⟨by rfl, (by intro w' hSw; obtain ⟨s0, s1⟩ := hSw; go_simp)⟩) (unhide HSV) ?_
                    go_simp
                    refine wpAnyH_take (i := 14) (oi := _) (v := .int .i64 B) rfl (by kernel_rfl) (by kernel_rfl) (by kernel_rfl) (fun _ _ _ h => h) (Or.inl ⟨by rfl, (by intro w' hSw; obtain ⟨s0, s1⟩ := hSw; go_simp)⟩) (unhide HSV) ?_
                    go_simp
                    refine wpAnyH_ready (rs := [11]) (by kernel_rfl) (by simp) ?_
                    refine AllReadyH.cons (o := _) rfl (fun K hK => ?_) AllReadyH.nil
                    go_simp
                    refine (unhide HAT1).mono ?_
                    rintro e w1 ⟨rfl, b1⟩
                    have HG1 := hide ((unhide HGV).mk1 b1)
                    have HS1 := hide (unhide HST _ n false (unhide HOB) (unhide HG1))
                    have HAT2 := hide (unhide HAT2' w1 (unhide HG1))
                    clear b1
                    go_simp
                    refine hK.out _ _ (unhide HS1) (fun _ => ?_)
                    clear hK K
                    go_simp
                    refine wpAnyH_take (i := 12) (oi := _) (v := .int .i64 x0) rfl (by kernel_rfl) (by kernel_rfl) (by kernel_rfl) (fun _ _ _ h => h) (Or.inl ⟨by rfl, (by intro w' hSw; obtain ⟨s0, s1⟩ := hSw; go_simp)⟩) (unhide HS1) ?_
                    go_simp
                    refine wpAnyH_ready (rs := [15]) (by kernel_rfl) (by simp) ?_
                    refine AllReadyH.cons (o := _) rfl (fun K hK => ?_) AllReadyH.nil
                    go_simp
                    refine (unhide HAT2).mono ?_
                    rintro e w2 ⟨rfl, b2⟩
                    have HG2 := hide ((unhide HG1).mk1 b2)
                    have HS2 := hide (unhide HST _ n false (unhide HOB) (unhide HG2))
                    clear b2
                    go_simp
                    refine hK.out _ _ (unhide HS2) (fun _ => ?_)
                    clear hK K
                    go_simp
                    refine wpAnyH_take (i := 16) (oi := _) (v := .int .i64 y0) rfl (by kernel_rfl) (by kernel_rfl) (by kernel_rfl) (fun _ _ _ h => h) (Or.inl ⟨by rfl, (by intro w' hSw; obtain ⟨s0, s1⟩ := hSw; go_simp)⟩) (unhide HS2) ?_
                    go_simp
                    refine wpAnyH_take (i := 17) (oi := _) (v := .bool true) rfl (by kernel_rfl) (by kernel_rfl) (by kernel_rfl) (fun _ _ _ h => h) (Or.inl ⟨by rfl, (by intro w' hSw; obtain ⟨s0, s1⟩ := hSw; go_simp)⟩) (unhide HS2) ?_
                    go_simp
                    refine wpAnyH_take (i := 18) (oi := _) (v := .bool true) rfl (by kernel_rfl) (by kernel_rfl) (by kernel_rfl) (fun _ _ _ h => h) (Or.inl ⟨by rfl, (by intro w' hSw; obtain ⟨s0, s1⟩ := hSw; go_simp)⟩) (unhide HS2) ?_
                    go_simp
                    refine wpAnyH_take (i := 19) (oi := _) (v := .bool true) rfl (by kernel_rfl) (by kernel_rfl) (by kernel_rfl) (fun _ _ _ h => h) (Or.inl ⟨by rfl, (by intro w' hSw; obtain ⟨s0, s1⟩ := hSw; go_simp)⟩) (unhide HS2) ?_
                    go_simp
                    refine wpAnyH_done (by kernel_rfl) ?_ _
                    go_wp2_with fail
                    go_roundg (gk - 1)
                    case measure => have := unhide hn; omega
                    case rel => exact ⟨n + 1, by have := unhide hn; unfold Hid; omega, by rw [unhide HNX], by go_num, HG2⟩
                  · have HNX : Hid (bst f out (n + 1) = B) := by unfold Hid bst; rw [unhide hB, if_neg (fun q => by have q2 := q.2; rw [unhide hcx, unhide hcy] at q2; omega)]
                    have dC : decide (y0 < x0) = false := by simpa using hC
                    clear hb hC
                    go_wp2_with fail
                    refine wp_region_held_drew (S := (fun W => W.cell? ⟨w.heap.size, 0, none⟩ = some (.slice a i acap) ∧ W.cell? ⟨g, oo + n, none⟩ = some (.bool false))) (by kernel_rfl) (unhide HSD) (fun hHeld => ?_)
                    clear hHeld
                    rw [unhide hV]
                    refine wpAnyH_take (i := 0) (oi := _) (v := .slice (some ⟨g, oo, none⟩) i oc) rfl (by kernel_rfl) (by kernel_rfl) (by kernel_rfl) (fun _ _ _ h => h) (Or.inl ⟨by rfl, (by intro w' hSw; obtain ⟨s0, s1⟩ := hSw; go_simp)⟩) (unhide HSV) ?_
                    go_simp
                    refine wpAnyH_take (i := 1) (oi := _) (v := .int .i64 (n : Int)) rfl (by kernel_rfl) (by kernel_rfl) (by kernel_rfl) (fun _ _ _ h => h) (Or.inl ⟨by rfl, (by intro w' hSw; obtain ⟨s0, s1⟩ := hSw; go_simp)⟩) (unhide HSV) ?_
                    go_simp
                    refine wpAnyH_take (i := 2) (oi := _) (v := .pointer (some ⟨g, oo + n, none⟩)) rfl (by kernel_rfl) (by kernel_rfl) (by kernel_rfl) (fun _ _ _ h => h) (Or.inl ⟨by rfl, (by intro w' hSw; obtain ⟨s0, s1⟩ := hSw; go_simp)⟩) (unhide HSV) ?_
                    go_simp
                    refine wpAnyH_take (i := 3) (oi := _) (v := .bool false) rfl (by kernel_rfl) (by kernel_rfl) (by kernel_rfl) (fun _ _ _ h => h) (Or.inl ⟨by rfl, (by intro w' hSw; obtain ⟨s0, s1⟩ := hSw; go_simp)⟩) (unhide HSV) ?_
                    go_simp
                    refine wpAnyH_take (i := 4) (oi := _) (v := .bool true) rfl (by kernel_rfl) (by kernel_rfl) (by kernel_rfl) (fun _ _ _ h => h) (Or.inl ⟨by rfl, (by intro w' hSw; obtain ⟨s0, s1⟩ := hSw; go_simp)⟩) (unhide HSV) ?_
                    go_simp
                    refine wpAnyH_take (i := 5) (oi := _) (v := .bool true) rfl (by kernel_rfl) (by kernel_rfl) (by kernel_rfl) (fun _ _ _ h => h) (Or.inl ⟨by rfl, (by intro w' hSw; obtain ⟨s0, s1⟩ := hSw; go_simp)⟩) (unhide HSV) ?_
                    go_simp
                    refine wpAnyH_take (i := 6) (oi := _) (v := .int .i64 B) rfl (by kernel_rfl) (by kernel_rfl) (by kernel_rfl) (fun _ _ _ h => h) (Or.inl ⟨by rfl, (by intro w' hSw; obtain ⟨s0, s1⟩ := hSw; go_simp)⟩) (unhide HSV) ?_
                    go_simp
                    refine wpAnyH_take (i := 7) (oi := _) (v := .bool false) rfl (by kernel_rfl) (by kernel_rfl) (by kernel_rfl) (fun _ _ _ h => h) (Or.inl ⟨by rfl, (by intro w' hSw; obtain ⟨s0, s1⟩ := hSw; go_simp)⟩) (unhide HSV) ?_
                    go_simp
                    refine wpAnyH_take (i := 8) (oi := _) (v := .bool false) rfl (by kernel_rfl) (by kernel_rfl) (by kernel_rfl) (fun _ _ _ h => h) (Or.inl ⟨by rfl, (by intro w' hSw; obtain ⟨s0, s1⟩ := hSw; go_simp)⟩) (unhide HSV) ?_
                    go_simp
                    refine wpAnyH_take (i := 9) (oi := _) (v := .agg #[.slice a i acap]) rfl (by kernel_rfl) (by kernel_rfl) (by kernel_rfl) (fun _ _ _ h => h) (Or.inl ⟨by rfl, (by intro w' hSw; obtain ⟨s0, s1⟩ := hSw; go_simp)⟩) (unhide HSV) ?_
                    go_simp
                    refine wpAnyH_take (i := 10) (oi := _) (v := .int .i64 (n : Int)) rfl (by kernel_rfl) (by kernel_rfl) (by kernel_rfl) (fun _ _ _ h => h) (Or.inl ⟨by rfl, (by intro w' hSw; obtain ⟨s0, s1⟩ := hSw; go_simp)⟩) (unhide HSV) ?_
                    go_simp
                    refine wpAnyH_take (i := 13) (oi := _) (v := .agg #[.slice a i acap]) rfl (by kernel_rfl) (by kernel_rfl) (by kernel_rfl) (fun _ _ _ h => h) (Or.inl ⟨by rfl, (by intro w' hSw; obtain ⟨s0, s1⟩ := hSw; go_simp)⟩) (unhide HSV) ?_
                    go_simp
                    refine wpAnyH_take (i := 14) (oi := _) (v := .int .i64 B) rfl (by kernel_rfl) (by kernel_rfl) (by kernel_rfl) (fun _ _ _ h => h) (Or.inl ⟨by rfl, (by intro w' hSw; obtain ⟨s0, s1⟩ := hSw; go_simp)⟩) (unhide HSV) ?_
                    go_simp
                    refine wpAnyH_ready (rs := [11]) (by kernel_rfl) (by simp) ?_
                    refine AllReadyH.cons (o := _) rfl (fun K hK => ?_) AllReadyH.nil
                    go_simp
                    refine (unhide HAT1).mono ?_
                    rintro e w1 ⟨rfl, b1⟩
                    have HG1 := hide ((unhide HGV).mk1 b1)
                    have HS1 := hide (unhide HST _ n false (unhide HOB) (unhide HG1))
                    have HAT2 := hide (unhide HAT2' w1 (unhide HG1))
                    clear b1
                    go_simp
                    refine hK.out _ _ (unhide HS1) (fun _ => ?_)
                    clear hK K
                    go_simp
                    refine wpAnyH_take (i := 12) (oi := _) (v := .int .i64 x0) rfl (by kernel_rfl) (by kernel_rfl) (by kernel_rfl) (fun _ _ _ h => h) (Or.inl ⟨by rfl, (by intro w' hSw; obtain ⟨s0, s1⟩ := hSw; go_simp)⟩) (unhide HS1) ?_
                    go_simp
                    refine wpAnyH_ready (rs := [15]) (by kernel_rfl) (by simp) ?_
                    refine AllReadyH.cons (o := _) rfl (fun K hK => ?_) AllReadyH.nil
                    go_simp
                    refine (unhide HAT2).mono ?_
                    rintro e w2 ⟨rfl, b2⟩
                    have HG2 := hide ((unhide HG1).mk1 b2)
                    have HS2 := hide (unhide HST _ n false (unhide HOB) (unhide HG2))
                    clear b2
                    go_simp
                    refine hK.out _ _ (unhide HS2) (fun _ => ?_)
                    clear hK K
                    go_simp
                    refine wpAnyH_take (i := 16) (oi := _) (v := .int .i64 y0) rfl (by kernel_rfl) (by kernel_rfl) (by kernel_rfl) (fun _ _ _ h => h) (Or.inl ⟨by rfl, (by intro w' hSw; obtain ⟨s0, s1⟩ := hSw; go_simp)⟩) (unhide HS2) ?_
                    go_simp
                    refine wpAnyH_take (i := 17) (oi := _) (v := .bool false) rfl (by kernel_rfl) (by kernel_rfl) (by kernel_rfl) (fun _ _ _ h => h) (Or.inl ⟨by rfl, (by intro w' hSw; obtain ⟨s0, s1⟩ := hSw; go_simp)⟩) (unhide HS2) ?_
                    go_simp
                    refine wpAnyH_take (i := 18) (oi := _) (v := .bool false) rfl (by kernel_rfl) (by kernel_rfl) (by kernel_rfl) (fun _ _ _ h => h) (Or.inl ⟨by rfl, (by intro w' hSw; obtain ⟨s0, s1⟩ := hSw; go_simp)⟩) (unhide HS2) ?_
                    go_simp
                    refine wpAnyH_take (i := 19) (oi := _) (v := .bool false) rfl (by kernel_rfl) (by kernel_rfl) (by kernel_rfl) (fun _ _ _ h => h) (Or.inl ⟨by rfl, (by intro w' hSw; obtain ⟨s0, s1⟩ := hSw; go_simp)⟩) (unhide HS2) ?_
                    go_simp
                    refine wpAnyH_done (by kernel_rfl) ?_ _
                    go_wp2_with fail
                    go_roundg (gk - 1)
                    case measure => have := unhide hn; omega
                    case rel => exact ⟨n + 1, by have := unhide hn; unfold Hid; omega, by rw [unhide HNX], by go_num, HG2⟩
            · have hni : n = i := by have := unhide hn; omega
              subst hni
              rcases bst_spec f out n with ⟨h1, h2⟩ | ⟨b, h1, h2, h3, h4⟩
              · have eB : B = -1 := (unhide hB).symm.trans h1
                subst eB
                have HF : Hid (Gx w 1 enN (hotS f least) u wr) := by
                  have e := (unhide hHI).done (by rw [unhide hL]; exact h2)
                  rw [← e]
                  exact ⟨(unhide hH).rl, (unhide HEV _ (unhide hH).bl).1, fun k hk => by have := (unhide hH).bn k hk; have := unhide hW0s'; omega⟩
                clear hH h1 h2
                go_wp2_with fail
                go_ret
                exact ⟨_, rfl, unhide HF⟩
              · have eB : B = (b : Int) := (unhide hB).symm.trans h1
                subst eB
                have dB : decide ((b : Int) < 0) = false := decide_eq_false (by omega)
                have b0 : (0 : Int) ≤ (b : Int) := by omega
                have b1 : (b : Int) < (n : Int) := by omega
                have HI2 := hide ((unhide hHI).step (b := b) (by rw [unhide hL]; exact h2) h3 (by rw [unhide hL]; exact h4))
                obtain ⟨c1, c2, c3⟩ := (unhide hH).at (unhide HLN) h3
                have HG2 := hide ((unhide hH).put (unhide HLN) h2)
                have HGW : Hid (H7 W0 (.slice (some ⟨g, oo, none⟩) n oc) u (out.set b true) l (wr.setCell ⟨g, oo + b, none⟩ (.bool true))) := unhide HG2
                clear HG2 h1 h3 h4 hH
                have HRo := hide (unhide HGW).rl
                have HCN : Hid (∀ j u, (enN (b : Int))[j]? = some u → ((wr.setCell ⟨g, oo + b, none⟩ (.bool true)).alloc (.cells #[.int .i64 (b : Int)] 3)).cell? ((⟨wr.heap.size, 0, none⟩ : Addr).add j) = some u) := fun j u hu => by
                  have := new_cells (wr.setCell ⟨g, oo + b, none⟩ (.bool true)) #[.int .i64 (b : Int)] 3 j u hu
                  simpa using this
                have HLB : Hid (l.length ≤ 5864062014700) := by have := (unhide hHI).ll; unfold Hid; omega
                go_wp2_with (first | (at_builtin; refine appN' rfl _ _ rfl _ l rfl ((unhide HRo).keep (fun g hg => Below.heap_alloc _ _ _ ((unhide HRo).lt g hg))) ⟨wr.heap.size, 0, none⟩ 1 (b : Int) rfl (unhide HCN) (unhide HLB) ?_))
                intro v' w' hr hg hat
                have HG3 := hide ((unhide HGW).push hr rfl hg (by simpa using hat))
                clear hr hg hat HRo HLB HGW
                go_wp2_with fail
                go_roundg (G0 - 1)
                case measure => have h1 := unhide hG0; have h2 := unhide hk; omega
                case rel => exact ⟨k + 1, _, _, v', by have h1 := unhide hG0; have h2 := unhide hk; unfold Hid; omega, rfl, by go_num, HI2, HG3⟩
        · have HF : Hid (Gx w 1 enN (hotS f least) u wr) := by
            have e := (unhide hHI).full (by have := unhide hk; rw [unhide hL]; omega)
            rw [← e]
            exact ⟨(unhide hH).rl, bw, fun k hk => by have := (unhide hH).bn k hk; have := unhide hW0s'; omega⟩
          clear bw hH
          go_wp2_with fail
          go_ret
          exact ⟨_, rfl, unhide HF⟩
end Go.Proofs.Ytaldacjeeccbhaa
