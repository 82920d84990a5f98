/-
  fieldsAre.
-/
import Derived.Test.YtkpngfahnpidkaaRObj
import Derived.Deep.CutRange
namespace Go.Proofs.Ytkpngfahnpidkaa
open Go.RowKit
set_option linter.unusedVariables false
set_option linter.unusedSimpArgs false

theorem bool_eqlF (b c : Bool) (w : World) : (binOp .eql 4 (.bool b) (.bool c)).run Try.prog w = .ok (.bool (b == c)) w := by cases b <;> cases c <;> kernel_rfl
set_option maxRecDepth 100000 in
set_option maxHeartbeats 12800000 in
theorem fieldsAre_any {w : World} {h : Nat} {bud sp : Int} {ov : Value} {os : List OD} (H : Hp w h bud sp ov os) {o : OD} (ho : os[0]? = some o) (hk : o.k = 7) (hlen : o.its.length = o.keys.length) (hd : o.keys.Nodup) (h256 : o.keys.length ≤ 256) {kv vv : Value} (hkr : Ro w 1 kv o.keys.length (kcells o.keys)) (hvr : Ro w 2 vv o.its.length (flat o.its)) (key : Int) :
    Calls Try.prog 22 #[.pointer (some ⟨h, 0, none⟩), .agg #[.int .i64 7, .int .i64 0], kv, vv, .int .i64 key] w fun e w' => e = .returned (.bool true) ∧ Below w.heap.size w w' := by
  have be := bool_eqlF
  have hm : nm os 7 0 = some o := by
    unfold nm
    rw [if_pos (by omega)]
    simp [Option.filter, ho, hk]
  have hB : Below w.heap.size w (w.alloc (.cells #[.int .i64 7, .int .i64 0] 33)) := (Below.refl _ _).alloc (Nat.le_refl _) _
  have H0 := H.below hB
  have HOB : Hid (Calls Try.prog 26 #[.pointer (some ⟨h, 0, none⟩), .int .i64 0] (w.alloc (.cells #[.int .i64 7, .int .i64 0] 33)) fun e w' => ∃ v1 v2, e = .returned (.tuple #[.agg (objC 7 v1 v2), .bool true]) ∧ Gw (w.alloc (.cells #[.int .i64 7, .int .i64 0] 33)) o.its v1 w' ∧ Gk (w.alloc (.cells #[.int .i64 7, .int .i64 0] 33)) o.keys v2 w') := object7_any H0 (n := 0) ho hk (by omega) (by omega)
  unfold objC at HOB
  obtain ⟨b0, b1⟩ := two_new w (.int .i64 7) (.int .i64 0) 33
  have hz : (w.alloc (.cells #[.int .i64 7, .int .i64 0] 33)).heap.size = w.heap.size + 1 := by simp
  obtain ⟨ka, kc, ke, hkc, hkm⟩ := hkr.shape
  obtain ⟨va, vc, ve, hvc, hvm⟩ := hvr.shape
  have HKR := hide (fun i p (hp : o.keys[i]? = some p) => hkr.key hp)
  have HVR := hide (fun i p (hp : o.its[i]? = some p) => hvr.pair hp)
  rw [ke] at HKR
  rw [ve] at HVR
  subst ke ve
  obtain ⟨L, hL⟩ : ∃ L, Hid (o.keys.length = L) := ⟨_, rfl⟩
  have hlen2 : o.its.length = L := by rw [hlen]; exact unhide hL
  rw [unhide hL] at HKR hkc h256 ⊢
  rw [hlen2] at HVR hvc ⊢
  unfold maxLen at hkm hvm
  have HH := hide H
  have HM := hide hm
  have HK7 := hide hk
  have HND := hide hd
  have HLEN2 := hide hlen2
  have HB := hide hB
  have HZ := hide hz
  have hl := H.hlt
  have HBX : Hid (Bx (w.alloc (.cells #[.int .i64 7, .int .i64 0] 33)) w.heap.size 7 0) := ⟨b0, b1⟩
  clear H H0 hm hB ho hk hlen hd hkr hvr hlen2 hz
  go_enter Try.func22, Try.ntmps22
  go_wp2_with fail
  refine (unhide HOB).mono ?_
  rintro e1 w1 ⟨v1, v2, rfl, g1, k1⟩
  obtain ⟨pa, pc, ep, hpc, hpm⟩ := g1.1.shape
  obtain ⟨qa, qc, eq, hqc, hqm⟩ := k1.1.shape
  have HG1 := hide (fun i p (hp : o.its[i]? = some p) => g1.1.pair hp)
  have HK1 := hide (fun i p (hp : o.keys[i]? = some p) => k1.1.key hp)
  have b01 := g1.2.1
  rw [ep] at HG1
  rw [eq] at HK1
  rw [unhide HLEN2] at ep HG1 hpc
  rw [unhide hL] at eq HK1 hqc
  subst ep eq
  unfold maxLen at hpm hqm
  have hs1 := b01.size
  rw [unhide HZ] at hs1
  have bX : Below w1.heap.size w1 (w1.alloc (.cells #[.int .i64 7, .slice pa L pc, .slice qa L qc, .int .i64 0, .int .i64 0, .bool false] 56)) := (Below.refl _ _).alloc (Nat.le_refl _) _
  have hOX : Obx (w1.alloc (.cells #[.int .i64 7, .slice pa L pc, .slice qa L qc, .int .i64 0, .int .i64 0, .bool false] 56)) w1.heap.size 7 (.slice pa L pc) (.slice qa L qc) := Obx.new w1 7 _ _ 56
  have b02 : Below w.heap.size w (w1.alloc (.cells #[.int .i64 7, .slice pa L pc, .slice qa L qc, .int .i64 0, .int .i64 0, .bool false] 56)) := ((unhide HB).trans (b01.mono (by rw [unhide HZ]; omega))).trans (bX.mono (by omega))
  have HW2 := hide (And.intro b02 (And.intro (Bx.fr (unhide HBX) ((Fr.of_below (S := fun _ => False) b01).trans (Fr.of_below bX)) (fun e => e)) (And.intro hOX (And.intro bX hs1))))
  clear g1 k1 b01 bX hOX b02 hs1
  go_wp2_with fail
  obtain ⟨W2, eW⟩ : ∃ W2, Hid (W2 = w1.alloc (.cells #[.int .i64 7, .slice pa L pc, .slice qa L qc, .int .i64 0, .int .i64 0, .bool false] 56)) := ⟨_, rfl⟩
  rw [← unhide eW] at HW2 ⊢
  clear eW
  go_loopg [13, 14] L (fun g t13 t14 wr => ∃ (i : Nat), Hid (i + g = L) ∧ t13 = .bool (th o.keys key i) ∧ t14 = .int .i64 (i : Int) ∧ Hid (Below W2.heap.size W2 wr))
  case atStart => exact ⟨0, by unfold Hid; omega, rfl, rfl, Below.refl _ _⟩
  case round =>
    obtain ⟨i, hi, rfl, rfl, hB2⟩ := hrel
    obtain ⟨b02, bx2, ox2, bX, hs1⟩ := unhide HW2
    have frr : Fr (fun _ => False) W2 wr := Fr.of_below (unhide hB2)
    have bx := bx2.fr frr (fun e => e)
    have bw : Below w.heap.size w wr := b02.trans ((unhide hB2).mono b02.size)
    have Hr := hide ((unhide HH).below bw)
    by_cases hlt : i < L
    · obtain ⟨k, hkk⟩ : ∃ k, o.keys[i]? = some k := ⟨_, List.getElem?_eq_getElem (by rw [unhide hL]; exact hlt)⟩
      obtain ⟨x, hx⟩ : ∃ x, o.its[i]? = some x := ⟨_, List.getElem?_eq_getElem (by rw [unhide HLEN2]; exact hlt)⟩
      obtain ⟨kg, koff, kc', eke, _, _, hkg, kcell⟩ := unhide HKR i k hkk
      obtain ⟨vg, voff, vc', eve, _, _, hvg, vc0, vc1⟩ := unhide HVR i x hx
      obtain ⟨pg, poff, pc', epe, _, _, hpg, pc0, pc1⟩ := unhide HG1 i x hx
      obtain ⟨qg, qoff, qc', eqe, _, _, hqg, qcell⟩ := unhide HK1 i k hkk
      cases eke
      cases eve
      cases epe
      cases eqe
      have l12 : w1.heap.size ≤ W2.heap.size := bX.size
      have tr1 : ∀ b j, b < w1.heap.size → wr.cell? ⟨b, j, none⟩ = w1.cell? ⟨b, j, none⟩ := fun b j hb => ((unhide hB2).cell (p := ⟨b, j, none⟩) (by show b < _; omega)).trans (bX.cell (p := ⟨b, j, none⟩) hb)
      have trw : ∀ b j, b < w.heap.size → wr.cell? ⟨b, j, none⟩ = w.cell? ⟨b, j, none⟩ := fun b j hb => bw.cell (p := ⟨b, j, none⟩) hb
      have r1 := (trw _ _ hkg).trans kcell
      have r2 := (trw _ _ hvg).trans vc0
      have r3 := (trw _ _ hvg).trans vc1
      have r4 := (tr1 _ _ hpg).trans pc0
      have r5 := (tr1 _ _ hpg).trans pc1
      have r6 := (tr1 _ _ hqg).trans qcell
      have ox := ox2.fr frr (fun e => e)
      have o1 := ox.1 1 (by omega)
      have o2 := ox.1 2 (by omega)
      simp only [objL, List.getElem_cons_zero, List.getElem_cons_succ] at o1 o2
      have hsr := bw.size
      have hs2r := (unhide hB2).size
      have hXr : w1.heap.size < wr.heap.size := ox.lt
      have hbr : w.heap.size < wr.heap.size := bx.lt
      have m1 : kg < wr.heap.size := by omega
      have m2 : vg < wr.heap.size := by omega
      have m3 : pg < wr.heap.size := by omega
      have m4 : qg < wr.heap.size := by omega
      have hfx := fx_nodup (unhide HND) hkk
      have gf := fun (W : World) (f : Below wr.heap.size wr W) => getf_any ((unhide Hr).below f) 7 0 (unhide HM) (unhide HK7) k hfx hx
      have HF1 : Hid (∀ W, Fr (fun _ => False) wr W → Calls Try.prog 38 #[.pointer (some ⟨h, 0, none⟩), .agg #[.int .i64 7, .int .i64 0], .int .i64 k] W fun e w' => e = .returned (.tuple #[.agg #[.int .i64 x.1, .int .i64 x.2], .int .i64 0]) ∧ Below W.heap.size W w') := fun W f => gf W (f.below (Nat.le_refl _) (fun _ _ e => e))
      have bBx : Below wr.heap.size wr (wr.alloc (.cells #[.int .i64 0, .int .i64 0] 33)).drew := ((Below.refl _ _).alloc (Nat.le_refl _) _).drew
      have HF2 := hide (gf _ bBx)
      have hS : wr.cell? ⟨w.heap.size, 0, none⟩ = some (.int .i64 7) ∧ wr.cell? ⟨w.heap.size, 1, none⟩ = some (.int .i64 0) ∧ wr.cell? ⟨kg, koff + i, none⟩ = some (.int .i64 k) := ⟨bx.1, bx.2, r1⟩
      have st : ∀ W, Below wr.heap.size wr W → W.cell? ⟨w.heap.size, 0, none⟩ = some (.int .i64 7) ∧ W.cell? ⟨w.heap.size, 1, none⟩ = some (.int .i64 0) ∧ W.cell? ⟨kg, koff + i, none⟩ = some (.int .i64 k) := fun W f => ⟨(f.cell (p := ⟨w.heap.size, 0, none⟩) hbr).trans bx.1, (f.cell (p := ⟨w.heap.size, 1, none⟩) hbr).trans bx.2, (f.cell (p := ⟨kg, koff + i, none⟩) m1).trans r1⟩
      have HAFT : Hid (∀ w5, Below wr.drew.heap.size wr.drew w5 → (w5.cell? ⟨w.heap.size, 0, none⟩ = some (.int .i64 7) ∧ w5.cell? ⟨w.heap.size, 1, none⟩ = some (.int .i64 0) ∧ w5.cell? ⟨kg, koff + i, none⟩ = some (.int .i64 k)) ∧ ((w5.alloc (.cells #[.int .i64 0, .int .i64 0] 33)).cell? ⟨w.heap.size, 0, none⟩ = some (.int .i64 7) ∧ (w5.alloc (.cells #[.int .i64 0, .int .i64 0] 33)).cell? ⟨w.heap.size, 1, none⟩ = some (.int .i64 0) ∧ (w5.alloc (.cells #[.int .i64 0, .int .i64 0] 33)).cell? ⟨kg, koff + i, none⟩ = some (.int .i64 k)) ∧ ((w5.alloc (.cells #[.int .i64 x.1, .int .i64 x.2] 33)).cell? ⟨w.heap.size, 0, none⟩ = some (.int .i64 7) ∧ (w5.alloc (.cells #[.int .i64 x.1, .int .i64 x.2] 33)).cell? ⟨w.heap.size, 1, none⟩ = some (.int .i64 0) ∧ (w5.alloc (.cells #[.int .i64 x.1, .int .i64 x.2] 33)).cell? ⟨kg, koff + i, none⟩ = some (.int .i64 k)) ∧ (Bx (w5.alloc (.cells #[.int .i64 x.1, .int .i64 x.2] 33)) w5.heap.size x.1 x.2 ∧ Below wr.heap.size wr (w5.alloc (.cells #[.int .i64 x.1, .int .i64 x.2] 33)))) := fun w5 b5 => by
        have b5' : Below wr.heap.size wr w5 := ((Below.refl _ wr).drew).trans b5
        have c1 := b5'.trans (((Below.refl _ w5).alloc (Nat.le_refl _) (.cells #[.int .i64 0, .int .i64 0] 33)).mono b5'.size)
        have c2 := b5'.trans (((Below.refl _ w5).alloc (Nat.le_refl _) (.cells #[.int .i64 x.1, .int .i64 x.2] 33)).mono b5'.size)
        exact ⟨st _ b5', st _ c1, st _ c2, Bx.new _ _ _ _, c2⟩
      have HSB0 : Hid ((wr.alloc (.cells #[.int .i64 0, .int .i64 0] 33)).drew.cell? ⟨w.heap.size, 0, none⟩ = some (.int .i64 7) ∧ (wr.alloc (.cells #[.int .i64 0, .int .i64 0] 33)).drew.cell? ⟨w.heap.size, 1, none⟩ = some (.int .i64 0) ∧ (wr.alloc (.cells #[.int .i64 0, .int .i64 0] 33)).drew.cell? ⟨kg, koff + i, none⟩ = some (.int .i64 k)) := st _ bBx
      have HBFT : Hid (∀ w5, Below (wr.alloc (.cells #[.int .i64 0, .int .i64 0] 33)).drew.heap.size (wr.alloc (.cells #[.int .i64 0, .int .i64 0] 33)).drew w5 → (w5.cell? ⟨w.heap.size, 0, none⟩ = some (.int .i64 7) ∧ w5.cell? ⟨w.heap.size, 1, none⟩ = some (.int .i64 0) ∧ w5.cell? ⟨kg, koff + i, none⟩ = some (.int .i64 k)) ∧ (((w5.setCell ⟨wr.heap.size, 0, none⟩ (.int .i64 x.1)).setCell ⟨wr.heap.size, 1, none⟩ (.int .i64 x.2)).cell? ⟨w.heap.size, 0, none⟩ = some (.int .i64 7) ∧ ((w5.setCell ⟨wr.heap.size, 0, none⟩ (.int .i64 x.1)).setCell ⟨wr.heap.size, 1, none⟩ (.int .i64 x.2)).cell? ⟨w.heap.size, 1, none⟩ = some (.int .i64 0) ∧ ((w5.setCell ⟨wr.heap.size, 0, none⟩ (.int .i64 x.1)).setCell ⟨wr.heap.size, 1, none⟩ (.int .i64 x.2)).cell? ⟨kg, koff + i, none⟩ = some (.int .i64 k)) ∧ (Bx ((w5.setCell ⟨wr.heap.size, 0, none⟩ (.int .i64 x.1)).setCell ⟨wr.heap.size, 1, none⟩ (.int .i64 x.2)) wr.heap.size x.1 x.2 ∧ Below wr.heap.size wr ((w5.setCell ⟨wr.heap.size, 0, none⟩ (.int .i64 x.1)).setCell ⟨wr.heap.size, 1, none⟩ (.int .i64 x.2))) ∧ Bx w5 wr.heap.size 0 0 ∧ (∀ j, w5.frozen? ⟨wr.heap.size, j, none⟩ = false) ∧ wr.heap.size < w5.heap.size) := fun w5 b5 => by
        have b5' : Below wr.heap.size wr w5 := bBx.trans (b5.mono bBx.size)
        have hw : wr.heap.size < (wr.alloc (.cells #[.int .i64 0, .int .i64 0] 33)).drew.heap.size := by show wr.heap.size < (wr.alloc _).heap.size; simp
        have y : Bx w5 wr.heap.size 0 0 := (show Bx (wr.alloc (.cells #[.int .i64 0, .int .i64 0] 33)).drew wr.heap.size 0 0 from Bx.new wr 0 0 33).fr (Fr.of_below (S := fun _ => False) b5) (fun e => e)
        obtain ⟨z0, z1, zf⟩ := put2 y.1 y.2 (.int .i64 x.1) (.int .i64 x.2)
        have c2 := b5'.trans (zf.below b5'.size (fun q hq e => by omega))
        exact ⟨st _ b5', st _ c2, ⟨⟨z0, z1⟩, c2⟩, y, fun j => (World.frozen?_of_block (a := ⟨wr.heap.size, j, none⟩) (b5.block _ hw)).trans (frozen_new wr #[.int .i64 0, .int .i64 0] 33 j), y.lt⟩
      have i0 : (0 : Int) ≤ (i : Int) := by omega
      have i1 : (i : Int) < (L : Int) := by omega
      have HTS := hide (th_succ (key := key) hkk)
      clear b02 bx2 ox2 bX frr bx bw kcell vc0 vc1 pc0 pc1 qcell tr1 trw ox hfx gf st bBx hkk hx
      go_upto_region 8 with fail
      go_cut [15, 16] from 44 to 102 (fun t15 t16 wx => ∃ b, t15 = .pointer (some ⟨b, 0, none⟩) ∧ t16 = .int .i64 0 ∧ (Bx wx b x.1 x.2 ∧ Below wr.heap.size wr wx))
      case first =>
        refine wp_region_held_drew (S := (fun wx => wx.cell? ⟨w.heap.size, 0, none⟩ = some (.int .i64 7) ∧ wx.cell? ⟨w.heap.size, 1, none⟩ = some (.int .i64 0) ∧ wx.cell? ⟨kg, koff + i, none⟩ = some (.int .i64 k))) (by kernel_rfl) hS (fun hHeld => ?_)
        refine wpAnyH_take (i := 0) (oi := _) (v := .pointer (some ⟨h, 0, none⟩)) rfl (by kernel_rfl) (by kernel_rfl) (by kernel_rfl) (fun _ _ _ h => h) (Or.inl ⟨by rfl, (by intro w hSw; go_simp)⟩) (by assumption) ?_
        refine wpAnyH_take (i := 1) (oi := _) (v := .agg #[.int .i64 7, .int .i64 0]) rfl (by kernel_rfl) (by kernel_rfl) (by kernel_rfl) (fun _ _ _ h => h) (Or.inl ⟨by rfl, (by intro w hSw; obtain ⟨hs1, hs2, hs3⟩ := hSw; go_simp)⟩) (by assumption) ?_
        refine wpAnyH_take (i := 2) (oi := _) (v := .slice (some ⟨kg, koff, none⟩) L kc) rfl (by kernel_rfl) (by kernel_rfl) (by kernel_rfl) (fun _ _ _ h => h) (Or.inl ⟨by rfl, (by intro w hSw; go_simp)⟩) (by assumption) ?_
        go_simp
        refine wpAnyH_take (i := 3) (oi := _) (v := .int .i64 (i : Int)) rfl (by kernel_rfl) (by kernel_rfl) (by kernel_rfl) (fun _ _ _ h => h) (Or.inl ⟨by rfl, (by intro w hSw; go_simp)⟩) (by assumption) ?_
        refine wpAnyH_take (i := 4) (oi := _) (v := .pointer (some ⟨kg, koff + i, none⟩)) rfl (by kernel_rfl) (by kernel_rfl) (by kernel_rfl) (fun _ _ _ h => h) (Or.inl ⟨by rfl, (by intro w hSw; go_simp)⟩) (by assumption) ?_
        refine wpAnyH_take (i := 5) (oi := _) (v := .int .i64 k) rfl (by kernel_rfl) (by kernel_rfl) (by kernel_rfl) (fun _ _ _ h => h) (Or.inl ⟨by rfl, (by intro w hSw; obtain ⟨hs1, hs2, hs3⟩ := hSw; go_simp)⟩) (by assumption) ?_
        go_simp
        refine wpAnyH_ready (rs := [6, 10]) (by kernel_rfl) (by simp) ?_
        refine AllReadyH.cons (o := _) rfl (fun K hK => ?_) (AllReadyH.cons (o := _) rfl (fun K hK => ?_) AllReadyH.nil)
        · go_simp
          refine (unhide HF1 _ (Fr.refl (fun _ => False) wr).drew).mono ?_
          rintro e5 w5 ⟨rfl, hb5⟩
          obtain ⟨s5, s6, s7, s8⟩ := unhide HAFT w5 hb5
          have HS5 := hide s5
          have HSA1 := hide s6
          have HSA2 := hide s7
          have HA := hide s8
          clear hb5 s5 s6 s7 s8
          go_simp
          refine hK.out _ _ (unhide HS5) (fun _ => ?_)
          clear hK K
          refine wpAnyH_take (i := 7) (oi := _) (v := .tuple #[.agg #[.int .i64 x.1, .int .i64 x.2], .int .i64 0]) rfl (by kernel_rfl) (by kernel_rfl) (by kernel_rfl) (fun _ _ _ h => h) (Or.inl ⟨by rfl, (by intro w hSw; go_simp)⟩) (by assumption) ?_
          refine wpAnyH_take (i := 8) (oi := _) (v := .agg #[.int .i64 x.1, .int .i64 x.2]) rfl (by kernel_rfl) (by kernel_rfl) (by kernel_rfl) (fun _ _ _ h => h) (Or.inl ⟨by rfl, (by intro w hSw; go_simp)⟩) (by assumption) ?_
          refine wpAnyH_take (i := 9) (oi := _) (v := .int .i64 0) rfl (by kernel_rfl) (by kernel_rfl) (by kernel_rfl) (fun _ _ _ h => h) (Or.inl ⟨by rfl, (by intro w hSw; go_simp)⟩) (by assumption) ?_
          go_simp
          refine wpAnyH_ready (rs := [10]) (by kernel_rfl) (by simp) ?_
          refine AllReadyH.cons (o := _) rfl (fun K hK => ?_) AllReadyH.nil
          go_simp
          refine hK.out _ _ (unhide HSA1) (fun _ => ?_)
          clear hK K
          refine wpAnyH_ready (rs := [11]) (by kernel_rfl) (by simp) ?_
          refine AllReadyH.cons (o := _) rfl (fun K hK => ?_) AllReadyH.nil
          go_simp
          refine hK.out _ _ (unhide HSA2) (fun _ => ?_)
          clear hK K
          refine wpAnyH_ready (rs := [12]) (by kernel_rfl) (by simp) ?_
          refine AllReadyH.cons (o := _) rfl (fun K hK => ?_) AllReadyH.nil
          go_simp
          refine hK.out _ _ (unhide HSA2) (fun _ => ?_)
          clear hK K
          refine wpAnyH_done (by kernel_rfl) ?_ _
          go_wp2_with fail
          go_meet
          case rel => exact ⟨w5.heap.size, rfl, rfl, unhide HA⟩
        · go_simp
          refine hK.out _ _ (unhide HSB0) (fun _ => ?_)
          clear hK K
          refine wpAnyH_ready (rs := [6]) (by kernel_rfl) (by simp) ?_
          refine AllReadyH.cons (o := _) rfl (fun K hK => ?_) AllReadyH.nil
          go_simp
          refine (unhide HF2).mono ?_
          rintro e5 w5 ⟨rfl, hb5⟩
          obtain ⟨s5, s7, s8, s9, s10, s11⟩ := unhide HBFT w5 hb5
          obtain ⟨y0, y1⟩ := s9
          have yf0 := s10 0
          have yf1 := s10 1
          have HSB1 := hide s5
          have HSB2 := hide s7
          have HBB := hide s8
          clear hb5 s5 s7 s8 s10
          go_simp
          refine hK.out _ _ (unhide HSB1) (fun _ => ?_)
          clear hK K
          refine wpAnyH_take (i := 7) (oi := _) (v := .tuple #[.agg #[.int .i64 x.1, .int .i64 x.2], .int .i64 0]) rfl (by kernel_rfl) (by kernel_rfl) (by kernel_rfl) (fun _ _ _ h => h) (Or.inl ⟨by rfl, (by intro w hSw; go_simp)⟩) (by assumption) ?_
          refine wpAnyH_take (i := 8) (oi := _) (v := .agg #[.int .i64 x.1, .int .i64 x.2]) rfl (by kernel_rfl) (by kernel_rfl) (by kernel_rfl) (fun _ _ _ h => h) (Or.inl ⟨by rfl, (by intro w hSw; go_simp)⟩) (by assumption) ?_
          refine wpAnyH_take (i := 9) (oi := _) (v := .int .i64 0) rfl (by kernel_rfl) (by kernel_rfl) (by kernel_rfl) (fun _ _ _ h => h) (Or.inl ⟨by rfl, (by intro w hSw; go_simp)⟩) (by assumption) ?_
          go_simp
          refine wpAnyH_ready (rs := [11]) (by kernel_rfl) (by simp) ?_
          refine AllReadyH.cons (o := _) rfl (fun K hK => ?_) AllReadyH.nil
          go_simp
          refine hK.out _ _ (unhide HSB2) (fun _ => ?_)
          clear hK K
          refine wpAnyH_ready (rs := [12]) (by kernel_rfl) (by simp) ?_
          refine AllReadyH.cons (o := _) rfl (fun K hK => ?_) AllReadyH.nil
          go_simp
          refine hK.out _ _ (unhide HSB2) (fun _ => ?_)
          clear hK K
          refine wpAnyH_done (by kernel_rfl) ?_ _
          go_wp2_with fail
          go_meet
          case rel => exact ⟨wr.heap.size, rfl, rfl, unhide HBB⟩
      case rest =>
        obtain ⟨b, rfl, rfl, hbb, hbw⟩ := hcut
        obtain ⟨g0, g1⟩ := hbb
        have q1 := (hbw.cell (p := ⟨kg, koff + i, none⟩) m1).trans r1
        have q2 := (hbw.cell (p := ⟨vg, voff + i * 2, none⟩) m2).trans r2
        have q3 := (hbw.cell (p := ⟨vg, voff + i * 2 + 1, none⟩) m2).trans r3
        have q4 := (hbw.cell (p := ⟨pg, poff + i * 2, none⟩) m3).trans r4
        have q5 := (hbw.cell (p := ⟨pg, poff + i * 2 + 1, none⟩) m3).trans r5
        have q6 := (hbw.cell (p := ⟨qg, qoff + i, none⟩) m4).trans r6
        have q7 := (hbw.cell (p := ⟨w1.heap.size, 1, none⟩) hXr).trans o1
        have q8 := (hbw.cell (p := ⟨w1.heap.size, 2, none⟩) hXr).trans o2
        have hgl : b < wc.heap.size := World.block_lt_of_cell? _ _ g0
        have hsz := hbw.size
        have m1' : kg < wc.heap.size := by omega
        have m2' : vg < wc.heap.size := by omega
        have m3' : pg < wc.heap.size := by omega
        have m4' : qg < wc.heap.size := by omega
        have m5' : w1.heap.size < wc.heap.size := by omega
        have HBC := hide ((unhide hB2).trans (hbw.mono (unhide hB2).size))
        clear hbw r1 r2 r3 r4 r5 r6 o1 o2 HF1 HF2 HAFT HSB0 HBFT hS hsz m1 m2 m3 m4
        go_wp2_with fail
        go_quiet (fail)
        have HBD := hide ((unhide HBC).trans ((Fr.drewN (S := fun _ => False) nq).below (unhide HBC).size (fun _ _ e => e)))
        have q1' : (wc.drewN nq).cell? ⟨kg, koff + i, none⟩ = some (.int .i64 k) := q1
        have m1'' : kg < (wc.drewN nq).heap.size := m1'
        clear q1 q2 q3 q4 q5 q6 q7 q8 g0 g1 m1' m2' m3' m4' m5' hgl
        generalize wc.drewN nq = wd at *
        cases hth : th o.keys key i with
        | true =>
          have hts : th o.keys key (i + 1) = true := by rw [unhide HTS, hth]; rfl
          go_wp2_with fail
          go_roundg (gk - 1)
          case measure => have := unhide hi; omega
          case rel => exact ⟨i + 1, by have := unhide hi; unfold Hid; omega, by rw [hts], by go_num, HBD⟩
        | false =>
          by_cases hq : k = key
          · have hts : th o.keys key (i + 1) = true := by rw [unhide HTS, hth, hq]; simp
            have d1 : (k == key) = true := by simp [hq]
            have d2 : decide (k = key) = true := decide_eq_true hq
            go_wp2_with fail
            go_roundg (gk - 1)
            case measure => have := unhide hi; omega
            case rel => exact ⟨i + 1, by have := unhide hi; unfold Hid; omega, by rw [hts], by go_num, HBD⟩
          · have hts : th o.keys key (i + 1) = false := by rw [unhide HTS, hth]; simp [hq]
            have d1 : (k == key) = false := by simp [hq]
            have d2 : decide (k = key) = false := decide_eq_false hq
            go_wp2_with fail
            go_roundg (gk - 1)
            case measure => have := unhide hi; omega
            case rel => exact ⟨i + 1, by have := unhide hi; unfold Hid; omega, by rw [hts], by go_num, HBD⟩
    · have hiL : i = L := by have := unhide hi; omega
      subst hiL
      have HHS := hide (has_any (unhide Hr) 7 0 (unhide HM) (unhide HK7) key)
      rw [← th_end (unhide hL)] at HHS
      have hbr : w.heap.size < wr.heap.size := bx.lt
      have x0 := bx.1
      have x1 := bx.2
      have HBW := hide bw
      have bb : ∀ b : Bool, (b == b) = true := fun b => by cases b <;> rfl
      clear b02 bx2 ox2 bX frr bx bw
      go_wp2_with fail
      refine (unhide HHS).mono ?_
      rintro e6 w6 ⟨rfl, hb6⟩
      have HB6 := hide ((unhide HBW).trans (hb6.mono (unhide HBW).size))
      clear hb6
      go_wp2_with fail
      go_ret
      exact ⟨rfl, unhide HB6⟩
end Go.Proofs.Ytkpngfahnpidkaa
