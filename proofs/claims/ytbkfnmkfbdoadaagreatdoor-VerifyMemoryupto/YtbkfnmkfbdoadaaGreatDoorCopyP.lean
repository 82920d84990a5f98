/-
  A copy of a program.
-/
import Derived.Test.YtbkfnmkfbdoadaaGreatDoorCopyF
namespace Go.Proofs.YtbkfnmkfbdoadaaGreatDoor
open Go.RowKit
set_option linter.unusedVariables false
set_option linter.unusedSimpArgs false
set_option maxRecDepth 100000
theorem new_cells2 (w : World) (X : Obj) (arr : Array Value) (e : TypeId) : ∀ j z, arr.toList[j]? = some z → ((w.alloc X).alloc (.cells arr e)).cell? ((⟨w.heap.size + 1, 0, none⟩ : Addr).add j) = some z := by
  have := new_cells (w.alloc X) arr e
  rw [World.size_alloc] at this
  exact this
set_option maxHeartbeats 6400000 in
theorem cpP_any {w : World} {v : Value} {p : Pg} (h : PgV w v p) (hN : p.funcs.length ≤ 1048576000) (hC : p.consts.length ≤ 1048576000) (hBD : ∀ (i : Nat) (f : Fc), p.funcs[i]? = some f → f.code.length ≤ 1048576000 ∧ f.hs.length ≤ 1048576000) :
    Calls Tryz.prog 11 #[v] w fun e w' => ∃ cv fv xs, e = .returned (.agg #[cv, fv]) ∧ OP w.heap.size p xs cv fv w' ∧ Below w.heap.size w w' := by
  have HBD := hide hBD
  clear hBD
  obtain ⟨cv, fv, rfl, hc, hf⟩ := h
  obtain ⟨xs0, hx1, hx2, hx3⟩ := hf
  have HXA := hide (fun i x (hp : xs0[i]? = some x) => hx2.elem zF hp)
  have HX3 := hide hx3
  obtain ⟨_, a, cap, rfl, _, _, _⟩ := hx2
  have HCA := hide (fun i c (hp : p.consts[i]? = some c) => hc.elem zC hp)
  obtain ⟨_, ca, ccap, rfl, _, _, _⟩ := hc
  clear hx3
  obtain ⟨NC, hNC⟩ : ∃ L, Hid (p.consts.length = L) := ⟨_, rfl⟩
  obtain ⟨NF, hNF⟩ : ∃ L, Hid (p.funcs.length = L) := ⟨_, rfl⟩
  rw [unhide hNC] at hC HCA ⊢
  have hX0 : Hid (xs0.length = NF) := by rw [hx1]; exact unhide hNF
  rw [unhide hNF] at hN hx1
  rw [hx1] at HXA ⊢
  clear hx1
  obtain ⟨w1, hw1⟩ : ∃ x, Hid ((w.alloc (.cells #[.slice ca NC ccap, .slice a NF cap] 25)).alloc (.cells #[.slice none 0 0, .slice none 0 0] 25) = x) := ⟨_, rfl⟩
  have hs1 : Hid (w1.heap.size = w.heap.size + 2) := by rw [← unhide hw1]; simp [Hid]
  have HP1 : Hid (w1.cell? ⟨w.heap.size, 0, none⟩ = some (.slice ca NC ccap) ∧ w1.cell? ⟨w.heap.size, 1, none⟩ = some (.slice a NF cap) ∧ Below w.heap.size w w1) := by
    have hb : Below (w.heap.size + 1) (w.alloc (.cells #[.slice ca NC ccap, .slice a NF cap] 25)) w1 := by rw [← unhide hw1]; exact ((Below.refl _ _).alloc (by simp) _)
    obtain ⟨b0, b1, b2, _⟩ := box2 hb
    exact ⟨b0, b1, b2⟩
  have HR1 : Hid (w1.heap[w.heap.size + 1]? = some (.cells #[.slice none 0 0, .slice none 0 0] 25 (0, 0))) := by
    rw [← unhide hw1]
    have := heap_alloc_new (w.alloc (.cells #[.slice ca NC ccap, .slice a NF cap] 25)) (.cells #[.slice none 0 0, .slice none 0 0] 25)
    simpa [Hid] using this
  have H0 : Hid (LP w1 (w.heap.size + 2) (w.heap.size + 1 + 1) [] [] (.slice none 0 0) (.slice none 0 0) (w1.alloc (.cells #[.slice none 0 0, .slice none 0 0] 25))) := by
    have e := unhide hs1
    refine ⟨(Below.refl _ _).alloc (by omega) _, by omega, ?_, by simpa [flt] using Ro.nil _ 3, by simpa [flt] using Ro.nil _ 5, by simp [Value.ownBlock], by simp [Value.ownBlock], by simp [Value.ownBlock]⟩
    rw [show w.heap.size + 1 + 1 = w1.heap.size by omega]
    exact heap_alloc_new _ _
  go_enter Tryz.func11, Tryz.ntmps11
  go_wp2_with fail
  rw [unhide hw1]
  go_loopg [4] NC (fun g t5 wr => ∃ (i : Nat) (cv : Value), Hid (i + g = NC) ∧ t5 = .int .i64 (i : Int) ∧ Hid (LP w1 (w.heap.size + 2) (w.heap.size + 1 + 1) (p.consts.take i) [] cv (.slice none 0 0) wr))
  case atStart => exact ⟨0, _, by unfold Hid; omega, rfl, H0⟩
  case round =>
    obtain ⟨i, cv, hi, rfl, hG⟩ := hrel
    have P0 := Below.heldIn (unhide hG).below (by simp) (unhide HP1).1
    have P1 := Below.heldIn (unhide hG).below (by simp) (unhide HP1).2.1
    obtain ⟨q0, q1, qf⟩ := (unhide hG).cells
    have hLQ : Hid (w.heap.size + 2 ≤ wr.heap.size) := by have := (unhide hG).qlt; unfold Hid; omega
    have HNB : Hid (∀ k, k < w.heap.size + 2 → ¬ (cv.ownBlock = some k)) := by unfold Hid; intro k hk e; have := (unhide hG).cb k e; omega
    have HNB2 : Hid (∀ k, k < w.heap.size + 2 → ¬ (cv.ownBlock = some k ∨ k = w.heap.size + 1 + 1)) := by
      unfold Hid; intro k hk e
      rcases e with e | e
      · have := (unhide hG).cb k e; omega
      · omega
    by_cases hlt : i < NC
    · have hil : i < p.consts.length := by rw [unhide hNC]; exact hlt
      obtain ⟨c, hp⟩ : ∃ c, p.consts[i]? = some c := ⟨_, List.getElem?_eq_getElem hil⟩
      obtain ⟨b, off, _, e, _, _, hb, hcs⟩ := unhide HCA i c hp
      cases e
      have e0 := Below.heldIn (unhide hG).below (by simp; omega) (Below.heldIn (unhide HP1).2.2 hb (hcs 0 _ rfl))
      have e1 := Below.heldIn (unhide hG).below (by simp; omega) (Below.heldIn (unhide HP1).2.2 hb (hcs 1 _ rfl))
      have e2 := Below.heldIn (unhide hG).below (by simp; omega) (Below.heldIn (unhide HP1).2.2 hb (hcs 2 _ rfl))
      rw [Nat.add_zero] at e0
      have i0 : (0 : Int) ≤ (i : Int) := by omega
      have i1 : (i : Int) < (NC : Int) := by omega
      have htl : (p.consts.take i).length = i := by simp; omega
      have HRo := hide (show Ro wr 3 cv i (flt enC (p.consts.take i)) by have := (unhide hG).co; rw [htl] at this; exact this)
      have hcA : (wr.alloc (.cells #[.int .i64 c.kind, .int .i64 c.n, .string c.text] 57)).cell? ⟨w.heap.size + 1 + 1, 0, none⟩ = some cv := (World.cell?_of_block (Below.heap_alloc _ _ _ (unhide hG).qlt)).trans q0
      have HP := hide hp
      clear hcs hp
      go_wp2_with fail
      refine wp_region_held_drew (S := (fun wx => Below (w.heap.size + 2) wr wx)) (by kernel_rfl) (Below.drawn (Below.refl _ _)) (fun hHeld => ?_)
      refine wpAnyH_take (i := 0) (oi := _) (v := .pointer (some ⟨w.heap.size + 1 + 1, 0, none⟩)) rfl (by kernel_rfl) (by kernel_rfl) (by kernel_rfl) (fun _ _ _ h => h) (Or.inl ⟨by rfl, (by intro w hSw; go_simp)⟩) (by assumption) ?_
      refine wpAnyH_take (i := 2) (oi := _) (v := .pointer (some ⟨w.heap.size, 0, none⟩)) rfl (by kernel_rfl) (by kernel_rfl) (by kernel_rfl) (fun _ _ _ h => h) (Or.inl ⟨by rfl, (by intro w hSw; go_simp)⟩) (by assumption) ?_
      refine wpAnyH_take (i := 3) (oi := _) (v := .slice (some ⟨b, off, none⟩) NC ccap) rfl (by kernel_rfl) (by kernel_rfl) (by kernel_rfl) (fun _ _ _ h => h) (Or.inl ⟨by rfl, (by intro w hSw; have hs0 := Below.heldIn hSw (by simp) P0; go_simp)⟩) (by assumption) ?_
      go_simp
      refine wpAnyH_take (i := 4) (oi := _) (v := .int .i64 (i : Int)) rfl (by kernel_rfl) (by kernel_rfl) (by kernel_rfl) (fun _ _ _ h => h) (Or.inl ⟨by rfl, (by intro w hSw; go_simp)⟩) (by assumption) ?_
      refine wpAnyH_take (i := 5) (oi := _) (v := .pointer (some ⟨b, off + i * 3, none⟩)) rfl (by kernel_rfl) (by kernel_rfl) (by kernel_rfl) (fun _ _ _ h => h) (Or.inl ⟨by rfl, (by intro w hSw; go_simp)⟩) (by assumption) ?_
      go_simp
      refine wpAnyH_take (i := 6) (oi := _) (v := .agg #[.int .i64 c.kind, .int .i64 c.n, .string c.text]) rfl (by kernel_rfl) (by kernel_rfl) (by kernel_rfl) (fun _ _ _ h => h) (Or.inl ⟨by rfl, (by intro w hSw; have hs0 := Below.heldIn hSw (by simp; omega) e0; have hs1 := Below.heldIn hSw (by simp; omega) e1; have hs2 := Below.heldIn hSw (by simp; omega) e2; go_simp)⟩) (by assumption) ?_
      go_simp
      refine wpAnyH_ready (rs := [1, 7]) (by kernel_rfl) (by simp) ?_
      refine AllReadyH.cons (o := _) rfl (fun K hK => ?_) (AllReadyH.cons (o := _) rfl (fun K hK => ?_) AllReadyH.nil)
      · go_simp
        refine hK.out _ _ hHeld (fun hHeld3 => ?_)
        clear hK K
        refine wpAnyH_ready (rs := [7]) (by kernel_rfl) (by simp) ?_
        refine AllReadyH.cons (o := _) rfl (fun K hK => ?_) AllReadyH.nil
        go_simp
        refine hK.out _ _ (Below.drawnAlloc (unhide hLQ) (.cells #[.int .i64 c.kind, .int .i64 c.n, .string c.text] 57)) (fun hHeld3 => ?_)
        clear hK K
        refine wpAnyH_ready (rs := [8]) (by kernel_rfl) (by simp) ?_
        refine AllReadyH.cons (o := _) rfl (fun K hK => ?_) AllReadyH.nil
        refine step_appC rfl _ _ rfl cv (p.consts.take i) i htl rfl ((unhide HRo).keep (fun g hg => Below.heap_alloc _ _ _ ((unhide HRo).lt g hg))) ⟨wr.heap.size, 0, none⟩ 1 c rfl (by exact new_cells wr _ 57) (by omega) ?_
        intro v' w5 hr5 hg5 hat5
        obtain ⟨va, vcap, rfl, _⟩ := hr5.shape
        have hg5' : (wr.alloc (.cells #[.int .i64 c.kind, .int .i64 c.n, .string c.text] 57)).grownBy w5 (Value.ownBlock _) := ⟨hg5.os, hg5.tape, hg5.output, hg5.size, hg5.block⟩
        obtain ⟨k0, kf, f5, f6, A⟩ := (unhide hG).pushC hr5 (by simp [htl]) hg5' (by simpa using hat5)
        have hs5 : Below (w.heap.size + 2) wr w5 := f5.below (unhide hLQ) (unhide HNB)
        have hs6 := (unhide f6).below (unhide hLQ) (unhide HNB2)
        clear hr5 hg5 hg5' hat5 f5 f6
        refine hK.out _ _ hs5 (fun hHeld5 => ?_)
        clear hK K
        go_simp
        refine wpAnyH_take (i := 9) (oi := _) (v := .pointer (some ⟨w.heap.size + 1 + 1, 0, none⟩)) rfl (by kernel_rfl) (by kernel_rfl) (by kernel_rfl) (fun _ _ _ h => h) (Or.inl ⟨by rfl, (by intro w hSw; go_simp)⟩) (by assumption) ?_
        go_simp
        refine wpAnyH_ready (rs := [10]) (by kernel_rfl) (by simp) ?_
        refine AllReadyH.cons (o := _) rfl (fun K hK => ?_) AllReadyH.nil
        have hb5 : w.heap.size + 1 + 1 < w5.heap.size := World.block_lt_of_cell? _ _ k0
        go_simp
        refine hK.out _ _ hs6 (fun hHeld6 => ?_)
        clear hK K
        refine wpAnyH_done (by kernel_rfl) ?_ _
        clear hcA hHeld hHeld3 hHeld5 hHeld6 k0 kf hs5 hs6 hb5
        rw [← take_push (unhide HP)] at A
        go_wp2_with fail
        go_roundg (gk - 1)
        case measure => have := unhide hi; omega
        case rel => exact ⟨i + 1, _, by have := unhide hi; unfold Hid; omega, by go_num, A⟩
      · go_simp
        refine hK.out _ _ (Below.drawnAlloc (unhide hLQ) (.cells #[.int .i64 c.kind, .int .i64 c.n, .string c.text] 57)) (fun hHeld3 => ?_)
        clear hK K
        refine wpAnyH_ready (rs := [1]) (by kernel_rfl) (by simp) ?_
        refine AllReadyH.cons (o := _) rfl (fun K hK => ?_) AllReadyH.nil
        go_simp
        refine hK.out _ _ (Below.drawnAlloc (unhide hLQ) (.cells #[.int .i64 c.kind, .int .i64 c.n, .string c.text] 57)) (fun hHeld3 => ?_)
        clear hK K
        refine wpAnyH_ready (rs := [8]) (by kernel_rfl) (by simp) ?_
        refine AllReadyH.cons (o := _) rfl (fun K hK => ?_) AllReadyH.nil
        refine step_appC rfl _ _ rfl cv (p.consts.take i) i htl rfl ((unhide HRo).keep (fun g hg => Below.heap_alloc _ _ _ ((unhide HRo).lt g hg))) ⟨wr.heap.size, 0, none⟩ 1 c rfl (by exact new_cells wr _ 57) (by omega) ?_
        intro v' w5 hr5 hg5 hat5
        obtain ⟨va, vcap, rfl, _⟩ := hr5.shape
        have hg5' : (wr.alloc (.cells #[.int .i64 c.kind, .int .i64 c.n, .string c.text] 57)).grownBy w5 (Value.ownBlock _) := ⟨hg5.os, hg5.tape, hg5.output, hg5.size, hg5.block⟩
        obtain ⟨k0, kf, f5, f6, A⟩ := (unhide hG).pushC hr5 (by simp [htl]) hg5' (by simpa using hat5)
        have hs5 : Below (w.heap.size + 2) wr w5 := f5.below (unhide hLQ) (unhide HNB)
        have hs6 := (unhide f6).below (unhide hLQ) (unhide HNB2)
        clear hr5 hg5 hg5' hat5 f5 f6
        refine hK.out _ _ hs5 (fun hHeld5 => ?_)
        clear hK K
        go_simp
        refine wpAnyH_take (i := 9) (oi := _) (v := .pointer (some ⟨w.heap.size + 1 + 1, 0, none⟩)) rfl (by kernel_rfl) (by kernel_rfl) (by kernel_rfl) (fun _ _ _ h => h) (Or.inl ⟨by rfl, (by intro w hSw; go_simp)⟩) (by assumption) ?_
        go_simp
        refine wpAnyH_ready (rs := [10]) (by kernel_rfl) (by simp) ?_
        refine AllReadyH.cons (o := _) rfl (fun K hK => ?_) AllReadyH.nil
        have hb5 : w.heap.size + 1 + 1 < w5.heap.size := World.block_lt_of_cell? _ _ k0
        go_simp
        refine hK.out _ _ hs6 (fun hHeld6 => ?_)
        clear hK K
        refine wpAnyH_done (by kernel_rfl) ?_ _
        clear hcA hHeld hHeld3 hHeld5 hHeld6 k0 kf hs5 hs6 hb5
        rw [← take_push (unhide HP)] at A
        go_wp2_with fail
        go_roundg (gk - 1)
        case measure => have := unhide hi; omega
        case rel => exact ⟨i + 1, _, by have := unhide hi; unfold Hid; omega, by go_num, A⟩
    · have hiL : NC = i := by have := unhide hi; omega
      subst hiL
      have hG0 := unhide hG
      rw [List.take_of_length_le (by rw [unhide hNC]; exact Nat.le_refl _)] at hG0
      have HG0 := hide hG0
      clear hG hG0 hi q0 q1 qf hLQ HNB HNB2 hlt
      go_wp2_with fail
      go_loopg [5] NF (fun g t5 wr => ∃ (i : Nat) (fv : Value) (xs : List Fv), Hid (i + g = NF) ∧ t5 = .int .i64 (i : Int) ∧ Hid (LP w1 (w.heap.size + 2) (w.heap.size + 1 + 1) p.consts xs cv fv wr) ∧ Hid (PT (w.heap.size + 3) cv fv (p.funcs.take i) xs wr))
      case atStart => exact ⟨0, _, [], by unfold Hid; omega, rfl, HG0, by simpa [Hid] using PT.nil _ _ _ _⟩
      case round =>
        clear HG0 P0 P1
        obtain ⟨i, fv, xs, hi, rfl, hG, hPT⟩ := hrel
        have P1 := Below.heldIn (unhide hG).below (by simp) (unhide HP1).2.1
        have hql := (unhide hG).qlt
        by_cases hlt : i < NF
        · have hil : i < xs0.length := by rw [unhide hX0]; exact hlt
          obtain ⟨x, hp⟩ : ∃ x, xs0[i]? = some x := ⟨_, List.getElem?_eq_getElem hil⟩
          obtain ⟨f, hpf⟩ : ∃ f, p.funcs[i]? = some f := ⟨_, List.getElem?_eq_getElem (by rw [unhide hNF]; exact hlt)⟩
          obtain ⟨b, off, _, e, _, _, hb, hcs⟩ := unhide HXA i x hp
          cases e
          have hFN := unhide HX3 i f x hpf hp
          obtain ⟨a1, c1, a2, c2, rfl⟩ := hFN.parts
          have e0 := Below.heldIn (unhide hG).below (by simp; omega) (Below.heldIn (unhide HP1).2.2 hb (hcs 0 _ rfl))
          have e1 := Below.heldIn (unhide hG).below (by simp; omega) (Below.heldIn (unhide HP1).2.2 hb (hcs 1 _ rfl))
          have e2 := Below.heldIn (unhide hG).below (by simp; omega) (Below.heldIn (unhide HP1).2.2 hb (hcs 2 _ rfl))
          have e3 := Below.heldIn (unhide hG).below (by simp; omega) (Below.heldIn (unhide HP1).2.2 hb (hcs 3 _ rfl))
          have e4 := Below.heldIn (unhide hG).below (by simp; omega) (Below.heldIn (unhide HP1).2.2 hb (hcs 4 _ rfl))
          rw [Nat.add_zero] at e0
          have i0 : (0 : Int) ≤ (i : Int) := by omega
          have i1 : (i : Int) < (NF : Int) := by omega
          have hW : Below w.heap.size w wr := (unhide HP1).2.2.trans ((unhide hG).below.mono (by omega))
          have HCP := hide (cpF_any (hFN.below hW (Nat.le_refl _)) (by have := (unhide HBD i f hpf).1; omega) (by have := (unhide HBD i f hpf).2; omega))
          have HPF := hide hpf
          clear hcs hp hFN hpf
          go_wp2_with fail
          refine (unhide HCP).mono ?_
          clear HCP
          rintro e w4 ⟨y, rfl, hC4⟩
          obtain ⟨f1, f2, f3, f4⟩ := hC4
          obtain ⟨ya, yc, ya2, yc2, rfl⟩ := f1.fnv.parts
          have hL4 := (unhide hG).keep f2
          have hs4 := f2.size
          have hPT4 := (unhide hPT).push f2 f1 (by omega) (unhide hG).co.lt (unhide hG).fo.lt f3 f4
          have hG4 : Hid (LP w1 (w.heap.size + 2) (w.heap.size + 1 + 1) p.consts xs cv fv (w4.alloc (.cells #[.string f.name, .int .i64 f.params, .int .i64 f.locals, .slice ya f.code.length yc, .slice ya2 f.hs.length yc2] 45))) := hL4.keep ((Below.refl _ _).alloc (Nat.le_refl _) _)
          have hxl : xs.length = i := by have := (unhide hPT).xl; rw [List.length_take, unhide hNF] at this; omega
          have HPT4 := hide hPT4
          clear hL4 hPT4 f2 f1 f3 f4 e0 e1 e2 e3 e4 P1 hPT
          obtain ⟨q0, q1, qf⟩ := (unhide hG4).cells
          have qf1 := qf 1
          have hql4 : w.heap.size + 1 + 1 < w4.heap.size := by omega
          clear hG hql
          have q1' : w4.cell? ⟨w.heap.size + 1 + 1, 1, none⟩ = some fv := by
            rw [← q1]; exact (World.cell?_of_block (Below.heap_alloc _ _ _ hql4)).symm
          have HRo := hide (show Ro _ 5 fv i (flt enF xs) by have := (unhide hG4).fo; rw [hxl] at this; exact this)
          go_wp2_with (first | (at_builtin; refine wpList_appF rfl _ _ rfl fv xs i hxl rfl ((unhide HRo).keep (fun g hg => Below.heap_alloc _ _ _ ((unhide HRo).lt g hg))) ⟨w4.heap.size + 1, 0, none⟩ 1 ⟨f.name, f.params, f.locals, .slice ya f.code.length yc, .slice ya2 f.hs.length yc2⟩ rfl (new_cells2 _ _ _ _) rfl rfl (by omega) ?_))
          intro v' w5 hr5 hg5 hat5
          obtain ⟨va, vcap, rfl, _⟩ := hr5.shape
          obtain ⟨k0, kf, f5, f6, A⟩ := (unhide hG4).pushF hr5 (by simp [hxl]) hg5 (by simpa using hat5)
          have hb5 : w.heap.size + 1 + 1 < w5.heap.size := World.block_lt_of_cell? _ _ k0
          have HPT5 : Hid (PT (w.heap.size + 3) cv (.slice va (i + 1) vcap) (p.funcs.take (i + 1)) (xs ++ [⟨f.name, f.params, f.locals, .slice ya f.code.length yc, .slice ya2 f.hs.length yc2⟩]) (w5.setCell ⟨w.heap.size + 1 + 1, 1, none⟩ (.slice va (i + 1) vcap))) := by
            rw [take_push (unhide HPF)]
            have hk := (unhide HPT4).fr (S := fun _ => False) (w' := w4.alloc (.cells #[.string f.name, .int .i64 f.params, .int .i64 f.locals, .slice ya f.code.length yc, .slice ya2 f.hs.length yc2] 45)) (Fr.of_below ((Below.refl _ _).alloc (Nat.le_refl _) _)) (fun _ _ _ _ _ e => e) (.inl rfl) (.inl rfl)
            refine hk.fr (unhide f6) (fun k x b hx hb e => ?_) (.inl rfl) ?_
            · obtain ⟨u1, u2, u3⟩ := hk.apart k x b hx hb
              rcases e with e | e
              · exact u3 e
              · omega
            · rcases hat5 with e | e
              · exact .inl e
              · exact .inr ⟨_, e, by simp⟩
          clear hr5 hg5 hat5 f5 f6 HPT4
          go_wp2_with fail
          go_roundg (gk - 1)
          case measure => have := unhide hi; omega
          case rel => exact ⟨i + 1, _, _, by have := unhide hi; unfold Hid; omega, by go_num, A, HPT5⟩
        · have hiL : NF = i := by have := unhide hi; omega
          subst hiL
          obtain ⟨q0, q1, qf⟩ := (unhide hG).cells
          have hbr := (unhide hG).below.block (w.heap.size + 1) (by omega) |>.trans (unhide HR1)
          have r0 : wr.cell? ⟨w.heap.size + 1, 0, none⟩ = some (.slice none 0 0) := by simp [World.cell?, hbr]
          have r1 : wr.cell? ⟨w.heap.size + 1, 1, none⟩ = some (.slice none 0 0) := by simp [World.cell?, hbr]
          have rf : ∀ o, wr.frozen? ⟨w.heap.size + 1, o, none⟩ = false := fun o => by simp [World.frozen?, hbr]
          have rf0 := rf 0
          have rf1 := rf 1
          have hrl : w.heap.size + 1 < wr.heap.size := by omega
          obtain ⟨cva, cvc, rfl, _⟩ := (unhide hG).co.shape
          obtain ⟨fva, fvc, rfl, _⟩ := (unhide hG).fo.shape
          have hxl : xs.length = NF := by have := (unhide hPT).xl; rw [List.length_take, unhide hNF] at this; omega
          subst hxl
          go_wp2_with fail
          refine bodyPost_ret (v := .agg #[.slice cva p.consts.length cvc, .slice fva xs.length fvc]) ?_ rfl ?_
          · rw [results_cell_one rfl]
            go_simp
          · refine ⟨_, _, xs, rfl, ?_, ?_⟩
            · have ho : OP (w.heap.size + 3) p xs (.slice cva p.consts.length cvc) (.slice fva xs.length fvc) wr := by
                refine ⟨(unhide hG).co, (unhide hG).fo, fun b hb => ?_, fun b hb => ?_, (unhide hG).ne, ?_⟩
                · have := (unhide hG).cb b hb; omega
                · have := (unhide hG).fb b hb; omega
                · have := unhide hPT
                  rw [List.take_of_length_le (by rw [unhide hNF]; exact Nat.le_refl _)] at this
                  exact this
              refine (ho.fr (S := fun k => k = w.heap.size + 1) (((Fr.refl (fun k => k = w.heap.size + 1) wr).setCell ⟨w.heap.size + 1, 0, none⟩ (.inr rfl) _).setCell ⟨w.heap.size + 1, 1, none⟩ (.inr rfl) _) (fun b hb (e : b = w.heap.size + 1) => by have := ho.ge hb; omega)).low (by omega)
            · exact ((unhide HP1).2.2.trans ((unhide hG).below.mono (by omega))).trans (Fr.below (((Fr.refl (fun k => k = w.heap.size + 1) wr).setCell ⟨w.heap.size + 1, 0, none⟩ (.inr rfl) _).setCell ⟨w.heap.size + 1, 1, none⟩ (.inr rfl) _) (by omega) (fun k hk (e : k = w.heap.size + 1) => by omega))
end Go.Proofs.YtbkfnmkfbdoadaaGreatDoor
