/-
  ProgramFinds.
-/
import Derived.Test.YtepfhchbmpfaoaaLent
import Derived.Test.YtepfhchbmpfaoaaKP
import Derived.Test.YtepfhchbmpfaoaaTurn
namespace Go.Proofs.Ytepfhchbmpfaoaa
open Go.RowKit
set_option linter.unusedVariables false
theorem fndB_mem {ns : List ByteArray} {s : ByteArray} {i : Nat} (h : ns[i]? = some s) : fndB ns s = true := by
  cases e : fnd ns s with
  | some k => simp [fndB, e]
  | none =>
    unfold fnd at e
    rw [List.findIdx?_eq_none_iff] at e
    have := e s (List.mem_of_getElem? h)
    simp at this
set_option maxRecDepth 100000 in
set_option maxHeartbeats 6400000 in
theorem findsLaw {w : World} {v : Value} {p : Pg} (s : ByteArray) (h : PgV w v p) (hN : p.funcs.length ≤ 1048576) (hC : p.consts.length ≤ 1048576) (hBD : ∀ (i : Nat) (f : Fc), p.funcs[i]? = some f → f.code.length ≤ 1048576 ∧ f.hs.length ≤ 1048576) :
    Calls Try.prog 3 #[v, .string s] w fun e w' => e = .returned (.bool true) ∧ Below w.heap.size w w' := by
  have HPV := hide h
  have HBD := hide hBD
  obtain ⟨cv, fv, rfl, hc, hf⟩ := h
  have hf0 := hf
  obtain ⟨a, cap, rfl, _, _, hat⟩ := hf.at
  have HAT := hide hat
  obtain ⟨_, ca, ccap, rfl, _, _, _⟩ := hc
  clear hf hat hf0 hBD
  obtain ⟨NC, hNC⟩ : ∃ L, Hid (p.consts.length = L) := ⟨_, rfl⟩
  obtain ⟨NF, hNF⟩ : ∃ L, Hid (p.funcs.length = L) := ⟨_, rfl⟩
  have hnl : Hid ((p.funcs.map (·.name)).length ≤ 1759218604390) := by unfold Hid; rw [List.length_map]; omega
  obtain ⟨rN, hrN⟩ : ∃ x, Hid (fndN (p.funcs.map (·.name)) s = x) := ⟨_, rfl⟩
  obtain ⟨rB, hrB⟩ : ∃ x, Hid (fndB (p.funcs.map (·.name)) s = x) := ⟨_, rfl⟩
  have hb1 : Below w.heap.size w (w.alloc (.cells #[.slice ca NC ccap, .slice a NF cap] 25)) := (Below.refl _ _).alloc (Nat.le_refl _) _
  have hL := lent_any (w := w.alloc (.cells #[.slice ca NC ccap, .slice a NF cap] 25)) ((unhide HPV).below hb1 (Nat.le_refl _)) hN hC (unhide HBD)
  rw [unhide hNC, unhide hNF] at hL
  rw [unhide hNC] at hC HPV ⊢
  rw [unhide hNF] at hN HPV ⊢
  have HL := hide hL
  clear hL
  go_enter Try.func3, Try.ntmps3
  go_wp2_with fail
  refine (unhide HL).mono ?_
  rintro e w2 ⟨cg, co, qcap, fg, fo, fcap, ys, rfl, hlnt⟩
  clear HL
  -- behind LentProgram
  obtain ⟨W, hW⟩ : ∃ x, Hid ((w2.alloc (.cells #[.slice (some ⟨cg, co, none⟩) NC qcap, .slice (some ⟨fg, fo, none⟩) NF fcap] 25)) = x) := ⟨_, rfl⟩
  have hbw2 : Below w2.heap.size w2 W := by rw [← unhide hW]; exact (Below.refl _ _).alloc (Nat.le_refl _) _
  obtain ⟨qb0, qb1, _, hq2⟩ := box2 (w := w2) (wr := W) (u := .slice (some ⟨cg, co, none⟩) NC qcap) (v := .slice (some ⟨fg, fo, none⟩) NF fcap) (e := 25) (by rw [← unhide hW]; exact Below.refl _ _)
  have hbb : Below (w.heap.size + 1) (w.alloc (.cells #[.slice ca NC ccap, .slice a NF cap] 25)) W := (hlnt.below.mono (by simp)).trans (hbw2.mono (by have := hlnt.below.size; simp at this; omega))
  obtain ⟨pb0, pb1, hwW, hp2⟩ := box2 hbb
  obtain ⟨p02, p12, _, hp22⟩ := box2 (hlnt.below.mono (by simp) : Below (w.heap.size + 1) _ w2)
  have HPB := hide (show w.heap.size < W.heap.size ∧ W.cell? ⟨w.heap.size, 0, none⟩ = some (.slice ca NC ccap) ∧ W.cell? ⟨w.heap.size, 1, none⟩ = some (.slice a NF cap) from ⟨hp2, pb0, pb1⟩)
  have HQB := hide (show w2.heap.size < W.heap.size ∧ W.cell? ⟨w2.heap.size, 0, none⟩ = some (.slice (some ⟨cg, co, none⟩) NC qcap) ∧ W.cell? ⟨w2.heap.size, 1, none⟩ = some (.slice (some ⟨fg, fo, none⟩) NF fcap) from ⟨hq2, qb0, qb1⟩)
  have HLn := hide (hlnt.keep hbw2)
  have HL2 := hide hlnt
  have HwW := hide hwW
  have HPW := hide ((unhide HPV).below hwW (Nat.le_refl _))
  have hqp := (unhide HLn).pgv
  rw [unhide hNC, unhide hNF] at hqp
  have HQW := hide hqp
  have HR := hide (fun wx (hx : Below W.heap.size W wx) (s : ByteArray) => refFind_any s ((unhide HPW).below hx (Nat.le_refl _)).pgn (unhide hnl))
  have HF := hide (fun wx (hx : Below W.heap.size W wx) (s : ByteArray) => find_any s ((unhide HQW).below hx (Nat.le_refl _)).pgn (unhide hnl))
  have hkp := fun wx (hx : Below W.heap.size W wx) => keptP_any ((unhide HLn).keep hx) ((unhide HPW).below hx (Nat.le_refl _)) (by rw [unhide hNF]; exact hN) (by rw [unhide hNC]; exact hC) (unhide HBD)
  rw [unhide hNC, unhide hNF] at hkp
  have HK := hide hkp
  clear hkp hqp hlnt hbw2 hbb hwW hp2 hq2 hb1
  go_wp2_with fail
  clear p02 p12 hp22
  rw [unhide hW]
  refine (unhide HR _ (Below.refl _ _) s).mono ?_
  rintro e w4 ⟨rfl, hb4⟩
  rw [unhide hrN, unhide hrB]
  have pb04 := Below.heldIn hb4 (unhide HPB).1 (unhide HPB).2.1
  have pb14 := Below.heldIn hb4 (unhide HPB).1 (unhide HPB).2.2
  have qb04 := Below.heldIn hb4 (unhide HQB).1 (unhide HQB).2.1
  have qb14 := Below.heldIn hb4 (unhide HQB).1 (unhide HQB).2.2
  go_wp2_with fail
  refine (unhide HF _ hb4 s).mono ?_
  rintro e w5 ⟨rfl, hb5'⟩
  rw [unhide hrN, unhide hrB]
  have hb5 := hb4.trans (hb5'.mono hb4.size)
  have pb05 := Below.heldIn hb5 (unhide HPB).1 (unhide HPB).2.1
  have pb15 := Below.heldIn hb5 (unhide HPB).1 (unhide HPB).2.2
  have qb05 := Below.heldIn hb5 (unhide HQB).1 (unhide HQB).2.1
  have qb15 := Below.heldIn hb5 (unhide HQB).1 (unhide HQB).2.2
  have d0 : (rN != rN) = false := by simp
  have d1 : (rB != rB) = false := by simp
  clear hb5' pb04 pb14 qb04 qb14
  go_wp2_with fail
  refine (unhide HK _ hb5).mono ?_
  rintro e w6 ⟨rfl, hb6'⟩
  have hB6 := hide (hb5.trans (hb6'.mono hb5.size))
  clear hb6' hb5 hb4 pb05 pb15 qb05 qb15 d0 d1 pb0 pb1 qb0 qb1
  go_wp2_with fail
  go_loopg [6, 8, 9, 10] NF (fun gg t6 t8 t9 t10 wr => ∃ (i : Nat), Hid (i + gg = NF) ∧ t10 = .int .i64 (i : Int) ∧ Hid (Below W.heap.size W wr))
  case atStart => exact ⟨0, by unfold Hid; omega, rfl, hB6⟩
  case round =>
    clear hB6 hrN hrB
    obtain ⟨i, hi, rfl, hB⟩ := hrel
    have pb0 := Below.heldIn (unhide hB) (unhide HPB).1 (unhide HPB).2.1
    have pb1 := Below.heldIn (unhide hB) (unhide HPB).1 (unhide HPB).2.2
    by_cases hlt : i < NF
    · obtain ⟨f, hf⟩ : ∃ f, p.funcs[i]? = some f := ⟨_, List.getElem?_eq_getElem (by rw [unhide hNF]; exact hlt)⟩
      obtain ⟨b, off, x, rfl, hb, hx, c⟩ := unhide HAT i f hf
      have hnm := hx.1
      have cc := c 0 _ rfl
      rw [hnm, Nat.add_zero] at cc
      have HF0 := hide (show b < W.heap.size ∧ W.cell? ⟨b, off + i * 5, none⟩ = some (.string f.name) from ⟨by have := (unhide HPB).1; omega, Below.heldIn (unhide HwW) hb cc⟩)
      have i0 : (0 : Int) ≤ (i : Int) := by omega
      have i1 : (i : Int) < (NF : Int) := by omega
      obtain ⟨rN, hrN⟩ : ∃ x, Hid (fndN (p.funcs.map (·.name)) f.name = x) := ⟨_, rfl⟩
      obtain ⟨rB, hrB⟩ : ∃ x, Hid (fndB (p.funcs.map (·.name)) f.name = x) := ⟨_, rfl⟩
      have hrT : rB = true := by rw [← unhide hrB]; exact fndB_mem (i := i) (by rw [List.getElem?_map, hf]; rfl)
      clear c cc hx hf hnm
      go_wp2_with fail
      clear pb0 pb1
      refine wp_region_held_drew (S := (fun wx => Below W.heap.size W wx)) (by kernel_rfl) (Below.drawn (unhide hB)) (fun hHeld => ?_)
      refine wpAnyH_take (i := 0) (oi := _) (v := .agg #[.slice ca NC ccap, .slice (some ⟨b, off, none⟩) NF cap]) rfl (by kernel_rfl) (by kernel_rfl) (by kernel_rfl) (fun _ _ _ h => h) (Or.inl ⟨by rfl, (by intro w hSw; have hs0 := Below.heldIn hSw (unhide HPB).1 (unhide HPB).2.1; have hs1 := Below.heldIn hSw (unhide HPB).1 (unhide HPB).2.2; go_simp)⟩) (by assumption) ?_
      refine wpAnyH_take (i := 1) (oi := _) (v := .pointer (some ⟨w.heap.size, 1, none⟩)) rfl (by kernel_rfl) (by kernel_rfl) (by kernel_rfl) (fun _ _ _ h => h) (Or.inl ⟨by rfl, (by intro w hSw; go_simp)⟩) (by assumption) ?_
      refine wpAnyH_take (i := 2) (oi := _) (v := .slice (some ⟨b, off, none⟩) NF cap) rfl (by kernel_rfl) (by kernel_rfl) (by kernel_rfl) (fun _ _ _ h => h) (Or.inl ⟨by rfl, (by intro w hSw; have hs1 := Below.heldIn hSw (unhide HPB).1 (unhide HPB).2.2; go_simp)⟩) (by assumption) ?_
      go_simp
      refine wpAnyH_take (i := 3) (oi := _) (v := .int .i64 (i : Int)) rfl (by kernel_rfl) (by kernel_rfl) (by kernel_rfl) (fun _ _ _ h => h) (Or.inl ⟨by rfl, (by intro w hSw; go_simp)⟩) (by assumption) ?_
      refine wpAnyH_take (i := 4) (oi := _) (v := .pointer (some ⟨b, off + i * 5, none⟩)) rfl (by kernel_rfl) (by kernel_rfl) (by kernel_rfl) (fun _ _ _ h => h) (Or.inl ⟨by rfl, (by intro w hSw; go_simp)⟩) (by assumption) ?_
      refine wpAnyH_take (i := 5) (oi := _) (v := .pointer (some ⟨b, off + i * 5, none⟩)) rfl (by kernel_rfl) (by kernel_rfl) (by kernel_rfl) (fun _ _ _ h => h) (Or.inl ⟨by rfl, (by intro w hSw; go_simp)⟩) (by assumption) ?_
      go_simp
      refine wpAnyH_take (i := 6) (oi := _) (v := .string f.name) rfl (by kernel_rfl) (by kernel_rfl) (by kernel_rfl) (fun _ _ _ h => h) (Or.inl ⟨by rfl, (by intro w hSw; have hs0 := Below.heldIn hSw (unhide HF0).1 (unhide HF0).2; go_simp)⟩) (by assumption) ?_
      go_simp
      refine wpAnyH_ready (rs := [7]) (by kernel_rfl) (by simp) ?_
      refine AllReadyH.cons (o := _) rfl (fun K hK => ?_) AllReadyH.nil
      go_simp
      refine (unhide HR _ (Below.drawn (unhide hB)) f.name).mono ?_
      rintro e v1 ⟨rfl, hb1⟩
      rw [unhide hrN, unhide hrB]
      have bb1 : Below W.heap.size W v1 := (unhide hB).trans ((fun k => (⟨k.os, k.tape, k.output, k.size, k.block⟩ : Below wr.heap.size wr v1)) hb1 |>.mono (unhide hB).size)
      go_simp
      refine hK.out _ _ bb1 (fun hHeld1 => ?_)
      clear hK K
      go_simp
      refine wpAnyH_take (i := 8) (oi := _) (v := .tuple #[.int .i64 rN, .bool rB]) rfl (by kernel_rfl) (by kernel_rfl) (by kernel_rfl) (fun _ _ _ h => h) (Or.inl ⟨by rfl, (by intro w hSw; go_simp)⟩) (by assumption) ?_
      refine wpAnyH_take (i := 9) (oi := _) (v := .int .i64 rN) rfl (by kernel_rfl) (by kernel_rfl) (by kernel_rfl) (fun _ _ _ h => h) (Or.inl ⟨by rfl, (by intro w hSw; go_simp)⟩) (by assumption) ?_
      refine wpAnyH_take (i := 10) (oi := _) (v := .bool rB) rfl (by kernel_rfl) (by kernel_rfl) (by kernel_rfl) (fun _ _ _ h => h) (Or.inl ⟨by rfl, (by intro w hSw; go_simp)⟩) (by assumption) ?_
      go_simp
      refine wpAnyH_ready (rs := [11]) (by kernel_rfl) (by simp) ?_
      refine AllReadyH.cons (o := _) rfl (fun K hK => ?_) AllReadyH.nil
      go_simp
      refine hK.out _ _ bb1 (fun hHeld11 => ?_)
      clear hK K
      go_simp
      refine wpAnyH_done (by kernel_rfl) ?_ _
      clear hHeld hHeld1 hHeld11
      have hB' := hide bb1
      clear bb1 hb1 hB
      obtain ⟨wr, rfl⟩ : ∃ x, x = v1 := ⟨_, rfl⟩
      have hB := hB'
      clear hB'
      go_wp2_with fail
      refine wp_region_held_drew (S := (fun wx => Below W.heap.size W wx)) (by kernel_rfl) (Below.drawn (unhide hB)) (fun hHeld => ?_)
      refine wpAnyH_take (i := 0) (oi := _) (v := .agg #[.slice (some ⟨cg, co, none⟩) NC qcap, .slice (some ⟨fg, fo, none⟩) NF fcap]) rfl (by kernel_rfl) (by kernel_rfl) (by kernel_rfl) (fun _ _ _ h => h) (Or.inl ⟨by rfl, (by intro w hSw; have hs0 := Below.heldIn hSw (unhide HQB).1 (unhide HQB).2.1; have hs1 := Below.heldIn hSw (unhide HQB).1 (unhide HQB).2.2; go_simp)⟩) (by assumption) ?_
      refine wpAnyH_take (i := 1) (oi := _) (v := .pointer (some ⟨w.heap.size, 1, none⟩)) rfl (by kernel_rfl) (by kernel_rfl) (by kernel_rfl) (fun _ _ _ h => h) (Or.inl ⟨by rfl, (by intro w hSw; go_simp)⟩) (by assumption) ?_
      refine wpAnyH_take (i := 2) (oi := _) (v := .slice (some ⟨b, off, none⟩) NF cap) rfl (by kernel_rfl) (by kernel_rfl) (by kernel_rfl) (fun _ _ _ h => h) (Or.inl ⟨by rfl, (by intro w hSw; have hs1 := Below.heldIn hSw (unhide HPB).1 (unhide HPB).2.2; go_simp)⟩) (by assumption) ?_
      go_simp
      refine wpAnyH_take (i := 3) (oi := _) (v := .int .i64 (i : Int)) rfl (by kernel_rfl) (by kernel_rfl) (by kernel_rfl) (fun _ _ _ h => h) (Or.inl ⟨by rfl, (by intro w hSw; go_simp)⟩) (by assumption) ?_
      refine wpAnyH_take (i := 4) (oi := _) (v := .pointer (some ⟨b, off + i * 5, none⟩)) rfl (by kernel_rfl) (by kernel_rfl) (by kernel_rfl) (fun _ _ _ h => h) (Or.inl ⟨by rfl, (by intro w hSw; go_simp)⟩) (by assumption) ?_
      refine wpAnyH_take (i := 5) (oi := _) (v := .pointer (some ⟨b, off + i * 5, none⟩)) rfl (by kernel_rfl) (by kernel_rfl) (by kernel_rfl) (fun _ _ _ h => h) (Or.inl ⟨by rfl, (by intro w hSw; go_simp)⟩) (by assumption) ?_
      go_simp
      refine wpAnyH_take (i := 6) (oi := _) (v := .string f.name) rfl (by kernel_rfl) (by kernel_rfl) (by kernel_rfl) (fun _ _ _ h => h) (Or.inl ⟨by rfl, (by intro w hSw; have hs0 := Below.heldIn hSw (unhide HF0).1 (unhide HF0).2; go_simp)⟩) (by assumption) ?_
      go_simp
      refine wpAnyH_ready (rs := [7]) (by kernel_rfl) (by simp) ?_
      refine AllReadyH.cons (o := _) rfl (fun K hK => ?_) AllReadyH.nil
      go_simp
      refine (unhide HF _ (Below.drawn (unhide hB)) f.name).mono ?_
      rintro e v1 ⟨rfl, hb1⟩
      rw [unhide hrN, unhide hrB]
      have bb1 : Below W.heap.size W v1 := (unhide hB).trans ((fun k => (⟨k.os, k.tape, k.output, k.size, k.block⟩ : Below wr.heap.size wr v1)) hb1 |>.mono (unhide hB).size)
      go_simp
      refine hK.out _ _ bb1 (fun hHeld1 => ?_)
      clear hK K
      go_simp
      refine wpAnyH_take (i := 8) (oi := _) (v := .tuple #[.int .i64 rN, .bool rB]) rfl (by kernel_rfl) (by kernel_rfl) (by kernel_rfl) (fun _ _ _ h => h) (Or.inl ⟨by rfl, (by intro w hSw; go_simp)⟩) (by assumption) ?_
      refine wpAnyH_take (i := 9) (oi := _) (v := .int .i64 rN) rfl (by kernel_rfl) (by kernel_rfl) (by kernel_rfl) (fun _ _ _ h => h) (Or.inl ⟨by rfl, (by intro w hSw; go_simp)⟩) (by assumption) ?_
      refine wpAnyH_take (i := 10) (oi := _) (v := .bool rB) rfl (by kernel_rfl) (by kernel_rfl) (by kernel_rfl) (fun _ _ _ h => h) (Or.inl ⟨by rfl, (by intro w hSw; go_simp)⟩) (by assumption) ?_
      go_simp
      refine wpAnyH_ready (rs := [11]) (by kernel_rfl) (by simp) ?_
      refine AllReadyH.cons (o := _) rfl (fun K hK => ?_) AllReadyH.nil
      go_simp
      refine hK.out _ _ bb1 (fun hHeld11 => ?_)
      clear hK K
      go_simp
      refine wpAnyH_ready (rs := [12]) (by kernel_rfl) (by simp) ?_
      refine AllReadyH.cons (o := _) rfl (fun K hK => ?_) AllReadyH.nil
      go_simp
      refine hK.out _ _ bb1 (fun hHeld12 => ?_)
      clear hK K
      go_simp
      refine wpAnyH_done (by kernel_rfl) ?_ _
      clear hHeld hHeld1 hHeld11 hHeld12
      have hB' := hide bb1
      clear bb1 hb1 hB
      obtain ⟨wr, rfl⟩ : ∃ x, x = v1 := ⟨_, rfl⟩
      have hB := hB'
      clear hB'
      subst hrT
      have d0 : (rN != rN) = false := by simp
      go_wp2_with fail
      go_roundg (gk - 1)
      case measure => have := unhide hi; omega
      case rel => exact ⟨i + 1, by have := unhide hi; unfold Hid; omega, by go_num, hB⟩
    · have hiL : NF = i := by have := unhide hi; omega
      subst hiL
      have qb0 := Below.heldIn (unhide hB) (unhide HQB).1 (unhide HQB).2.1
      have qb1 := Below.heldIn (unhide hB) (unhide HQB).1 (unhide HQB).2.2
      have hbx : Below wr.heap.size wr (wr.alloc (.cells #[.slice (some ⟨cg, co, none⟩) NC qcap, .slice (some ⟨fg, fo, none⟩) NF fcap] 25)) := (Below.refl _ _).alloc (Nat.le_refl _) _
      have hln := (unhide HLn).keep (unhide hB)
      have hcq : cg < w2.heap.size := (unhide HL2).crow.lt cg rfl
      have hfq : fg < w2.heap.size := (unhide HL2).frow.lt fg rfl
      have htn := hln.tn hcq hfq (fun k y b hy hb => ((unhide HL2).own.apart k y b hy hb).2.1) hbx
      rw [unhide hNC] at htn
      have hz : (List.zipWith lentF p.funcs ys).length = NF := by rw [List.length_zipWith, (unhide HL2).yl, Nat.min_self]; exact unhide hNF
      have htu := turned_any htn hz (Nat.le_trans (Nat.le_of_lt (unhide HQB).1) (unhide hB).size) (fun k x hx => by
        rw [List.getElem?_zipWith] at hx
        cases ef : p.funcs[k]? with
        | none => rw [ef] at hx; simp at hx
        | some f =>
          cases ey : ys[k]? with
          | none => rw [ef, ey] at hx; simp at hx
          | some y =>
            rw [ef, ey] at hx; simp at hx; subst hx
            obtain ⟨_, _, _, r1, r2⟩ := hln.own.rows k f y ef ey
            obtain ⟨_, _, _, e1, _⟩ := r1.full (by omega)
            obtain ⟨_, _, _, e2, _⟩ := r2.full (by omega)
            unfold lentF
            rw [e1, e2]
            exact ⟨⟨_, _, _, rfl⟩, ⟨_, _, _, rfl⟩⟩)
      have HTU := hide htu
      clear htu htn hz hln
      go_wp2_with fail
      refine (unhide HTU).mono ?_
      rintro e w7 ⟨rfl, xs', hxl, hT, hX⟩
      have hwr : w2.heap.size < wr.heap.size := Nat.lt_of_lt_of_le (unhide HQB).1 (unhide hB).size
      have q07 := (hT.fr.cell (a := ⟨w2.heap.size, 0, none⟩) (by simp; omega) (fun e => absurd e.2 (Nat.lt_irrefl _))).trans (Below.heldIn hbx hwr qb0)
      have q17 := (hT.fr.cell (a := ⟨w2.heap.size, 1, none⟩) (by simp; omega) (fun e => absurd e.2 (Nat.lt_irrefl _))).trans (Below.heldIn hbx hwr qb1)
      have hfb := (unhide HL2).fb
      simp only [World.size_alloc] at hfb
      have hBw7 : Below w.heap.size w w7 := (unhide HwW).trans (((unhide hB).mono (by have := (unhide HPB).1; omega)).trans ((hbx.mono (by omega)).trans (hT.fr.below (by simp; omega) (fun k hk e => by simp at e; omega))))
      have hpn : PgN w7 (.agg #[.slice (some ⟨cg, co, none⟩) NC qcap, .slice (some ⟨fg, fo, none⟩) NF fcap]) (xs'.map (·.name)) := by
        refine ⟨_, _, _, some ⟨fg, fo, none⟩, fcap, by rw [List.length_map, hxl], fun i nm hn => ?_⟩
        rw [List.getElem?_map, Option.map_eq_some_iff] at hn
        obtain ⟨x, hx, rfl⟩ := hn
        obtain ⟨_, ⟨a1, n1, c1, e1⟩, ⟨a2, n2, c2, e2⟩⟩ := hX i x hx
        obtain ⟨b, o, c, e, _, _, hb, hc⟩ := (Rx.of_ro hT.frow).elem zF hx
        cases e
        obtain ⟨x1, x2, x3, x4, x5⟩ := x
        simp only at e1 e2
        subst e1 e2
        exact ⟨fg, fo, x2, x3, a1, n1, c1, a2, n2, c2, rfl, hb, hc⟩
      have HFi := hide (find_any { data := #[111, 118, 101, 114] } hpn (by rw [List.length_map, hxl]; omega))
      have hres : fndB (xs'.map (·.name)) { data := #[111, 118, 101, 114] } = decide ((0 : Int) < (NF : Int)) := by
        cases NF with
        | zero =>
          obtain rfl : xs' = [] := List.eq_nil_of_length_eq_zero hxl
          rfl
        | succ n =>
          rw [decide_eq_true (by omega)]
          refine fndB_mem (i := 0) ?_
          have h0 : 0 < xs'.length := by omega
          rw [List.getElem?_map, List.getElem?_eq_getElem h0]
          exact congrArg some (hX 0 _ (List.getElem?_eq_getElem h0)).1
      have hT8 : w7.cell? ⟨w.heap.size, 1, none⟩ = some (.slice a NF cap) := (hT.fr.cell (a := ⟨w.heap.size, 1, none⟩) (by have := (unhide HPB).1; have := (unhide hB).size; simp; omega) (fun e => by simp at e; omega)).trans (Below.heldIn hbx (by have := (unhide HPB).1; have := (unhide hB).size; simp; omega) pb1)
      have HB7 := hide hBw7
      have HRES := hide hres
      clear hT hX hpn hres hBw7
      go_wp2_with fail
      refine (unhide HFi).mono ?_
      rintro e w8 ⟨rfl, hb8⟩
      rw [unhide HRES]
      obtain ⟨bz, hbz⟩ : ∃ x, decide ((0 : Int) < (NF : Int)) = x := ⟨_, rfl⟩
      have pb8 : w8.cell? ⟨w.heap.size, 1, none⟩ = some (.slice a NF cap) := Below.heldIn hb8 (by have := (unhide HPB).1; have := (unhide hB).size; have := q07; have := World.block_lt_of_cell? _ _ q07; simp at this ⊢; have := (unhide HL2).below.size; simp at this; omega) hT8
      go_wp2_with fail
      go_ret
      exact ⟨rfl, (unhide HB7).trans (hb8.mono (unhide HB7).size)⟩
end Go.Proofs.Ytepfhchbmpfaoaa
