/-
  A program lent.
-/
import Derived.Test.YtnefmfnchimppaaLnt
namespace Go.Proofs.Ytnefmfnchimppaa
open Go.RowKit
set_option linter.unusedVariables false

set_option maxRecDepth 100000 in
set_option maxHeartbeats 6400000 in
theorem lent_any {w : World} {v : Value} {p : Pg} (h : PgV w v p) (hN : p.funcs.length ≤ 1048576) (hC : p.consts.length ≤ 1048576) (hBD : ∀ (i : Nat) (f : Fc), p.funcs[i]? = some f → f.code.length ≤ 1048576 ∧ f.hs.length ≤ 1048576) :
    Calls Try.prog 4 #[v] w fun e w' => ∃ cg co ccap fg fo fcap ys, e = .returned (.agg #[.slice (some ⟨cg, co, none⟩) p.consts.length ccap, .slice (some ⟨fg, fo, none⟩) p.funcs.length fcap]) ∧ Lnt w p cg co ccap fg fo fcap ys w' := by
  have HBD := hide hBD
  clear hBD
  obtain ⟨cv, fv, rfl, hc, hf⟩ := h
  obtain ⟨xs0, hx1, hx2, hx3⟩ := hf
  have HXA := hide (fun i x (hp : xs0[i]? = some x) => hx2.elem zF hp)
  have HX3 := hide hx3
  obtain ⟨_, a, cap, rfl, _, _, _⟩ := hx2
  have HCA := hide (fun i c (hp : p.consts[i]? = some c) => hc.elem zC hp)
  obtain ⟨_, ca, ccap, rfl, _, _, _⟩ := hc
  clear hx3
  obtain ⟨NC, hNC⟩ : ∃ L, Hid (p.consts.length = L) := ⟨_, rfl⟩
  obtain ⟨NF, hNF⟩ : ∃ L, Hid (p.funcs.length = L) := ⟨_, rfl⟩
  rw [unhide hNC] at hC HCA ⊢
  have hX0 : Hid (xs0.length = NF) := by rw [hx1]; exact unhide hNF
  rw [unhide hNF] at hN hx1
  rw [hx1] at HXA ⊢
  clear hx1
  obtain ⟨w1, hw1⟩ : ∃ x, Hid ((w.alloc (.cells #[.slice ca NC ccap, .slice a NF cap] 25)).alloc (.cells #[.slice none 0 0, .slice none 0 0] 25) = x) := ⟨_, rfl⟩
  have hs1 : Hid (w1.heap.size = w.heap.size + 2) := by rw [← unhide hw1]; simp [Hid]
  have HP1 : Hid (w1.cell? ⟨w.heap.size, 0, none⟩ = some (.slice ca NC ccap) ∧ w1.cell? ⟨w.heap.size, 1, none⟩ = some (.slice a NF cap) ∧ Below w.heap.size w w1) := by
    have hb : Below (w.heap.size + 1) (w.alloc (.cells #[.slice ca NC ccap, .slice a NF cap] 25)) w1 := by rw [← unhide hw1]; exact ((Below.refl _ _).alloc (by simp) _)
    obtain ⟨b0, b1, b2, _⟩ := box2 hb
    exact ⟨b0, b1, b2⟩
  have HR1 : Hid (w1.heap[w.heap.size + 1]? = some (.cells #[.slice none 0 0, .slice none 0 0] 25 (0, 0))) := by
    rw [← unhide hw1]
    have := heap_alloc_new (w.alloc (.cells #[.slice ca NC ccap, .slice a NF cap] 25)) (.cells #[.slice none 0 0, .slice none 0 0] 25)
    simpa [Hid] using this
  have H0 : Hid (LP w1 (w.heap.size + 2) (w.heap.size + 1 + 1) [] [] (.slice none 0 0) (.slice none 0 0) (w1.alloc (.cells #[.slice none 0 0, .slice none 0 0] 25))) := by
    have e := unhide hs1
    refine ⟨(Below.refl _ _).alloc (by omega) _, by omega, ?_, by simpa [flt] using Ro.nil _ 3, by simpa [flt] using Ro.nil _ 5, by simp [Value.ownBlock], by simp [Value.ownBlock], by simp [Value.ownBlock]⟩
    rw [show w.heap.size + 1 + 1 = w1.heap.size by omega]
    exact heap_alloc_new _ _
  go_enter Try.func4, Try.ntmps4
  go_wp2_with fail
  rw [unhide hw1]
  go_loopg [5] NC (fun g t5 wr => ∃ (i : Nat) (cv : Value), Hid (i + g = NC) ∧ t5 = .int .i64 (i : Int) ∧ Hid (LP w1 (w.heap.size + 2) (w.heap.size + 1 + 1) (p.consts.take i) [] cv (.slice none 0 0) wr))
  case atStart => exact ⟨0, _, by unfold Hid; omega, rfl, H0⟩
  case round =>
    obtain ⟨i, cv, hi, rfl, hG⟩ := hrel
    have P0 := Below.heldIn (unhide hG).below (by simp) (unhide HP1).1
    have P1 := Below.heldIn (unhide hG).below (by simp) (unhide HP1).2.1
    obtain ⟨q0, q1, qf⟩ := (unhide hG).cells
    have hLQ : Hid (w.heap.size + 2 ≤ wr.heap.size) := by have := (unhide hG).qlt; unfold Hid; omega
    have HNB : Hid (∀ k, k < w.heap.size + 2 → ¬ (cv.ownBlock = some k)) := by unfold Hid; intro k hk e; have := (unhide hG).cb k e; omega
    have HNB2 : Hid (∀ k, k < w.heap.size + 2 → ¬ (cv.ownBlock = some k ∨ k = w.heap.size + 1 + 1)) := by
      unfold Hid; intro k hk e
      rcases e with e | e
      · have := (unhide hG).cb k e; omega
      · omega
    by_cases hlt : i < NC
    · have hil : i < p.consts.length := by rw [unhide hNC]; exact hlt
      obtain ⟨c, hp⟩ : ∃ c, p.consts[i]? = some c := ⟨_, List.getElem?_eq_getElem hil⟩
      obtain ⟨b, off, _, e, _, _, hb, hcs⟩ := unhide HCA i c hp
      cases e
      have e0 := Below.heldIn (unhide hG).below (by simp; omega) (Below.heldIn (unhide HP1).2.2 hb (hcs 0 _ rfl))
      have e1 := Below.heldIn (unhide hG).below (by simp; omega) (Below.heldIn (unhide HP1).2.2 hb (hcs 1 _ rfl))
      have e2 := Below.heldIn (unhide hG).below (by simp; omega) (Below.heldIn (unhide HP1).2.2 hb (hcs 2 _ rfl))
      rw [Nat.add_zero] at e0
      have i0 : (0 : Int) ≤ (i : Int) := by omega
      have i1 : (i : Int) < (NC : Int) := by omega
      have htl : (p.consts.take i).length = i := by simp; omega
      have HRo := hide (show Ro wr 3 cv i (flt enC (p.consts.take i)) by have := (unhide hG).co; rw [htl] at this; exact this)
      have hcA : (wr.alloc (.cells #[.int .i64 c.kind, .int .i64 c.n, .string c.text] 30)).cell? ⟨w.heap.size + 1 + 1, 0, none⟩ = some cv := (World.cell?_of_block (Below.heap_alloc _ _ _ (unhide hG).qlt)).trans q0
      have HP := hide hp
      clear hcs hp
      go_wp2_with fail
      refine wp_region_held_drew (S := (fun wx => Below (w.heap.size + 2) wr wx)) (by kernel_rfl) (Below.drawn (Below.refl _ _)) (fun hHeld => ?_)
      refine wpAnyH_take (i := 0) (oi := _) (v := .pointer (some ⟨w.heap.size + 1 + 1, 0, none⟩)) rfl (by kernel_rfl) (by kernel_rfl) (by kernel_rfl) (fun _ _ _ h => h) (Or.inl ⟨by rfl, (by intro w hSw; go_simp)⟩) (by assumption) ?_
      refine wpAnyH_take (i := 2) (oi := _) (v := .pointer (some ⟨w.heap.size, 0, none⟩)) rfl (by kernel_rfl) (by kernel_rfl) (by kernel_rfl) (fun _ _ _ h => h) (Or.inl ⟨by rfl, (by intro w hSw; go_simp)⟩) (by assumption) ?_
      refine wpAnyH_take (i := 3) (oi := _) (v := .slice (some ⟨b, off, none⟩) NC ccap) rfl (by kernel_rfl) (by kernel_rfl) (by kernel_rfl) (fun _ _ _ h => h) (Or.inl ⟨by rfl, (by intro w hSw; have hs0 := Below.heldIn hSw (by simp) P0; go_simp)⟩) (by assumption) ?_
      go_simp
      refine wpAnyH_take (i := 4) (oi := _) (v := .int .i64 (i : Int)) rfl (by kernel_rfl) (by kernel_rfl) (by kernel_rfl) (fun _ _ _ h => h) (Or.inl ⟨by rfl, (by intro w hSw; go_simp)⟩) (by assumption) ?_
      refine wpAnyH_take (i := 5) (oi := _) (v := .pointer (some ⟨b, off + i * 3, none⟩)) rfl (by kernel_rfl) (by kernel_rfl) (by kernel_rfl) (fun _ _ _ h => h) (Or.inl ⟨by rfl, (by intro w hSw; go_simp)⟩) (by assumption) ?_
      go_simp
      refine wpAnyH_take (i := 6) (oi := _) (v := .agg #[.int .i64 c.kind, .int .i64 c.n, .string c.text]) rfl (by kernel_rfl) (by kernel_rfl) (by kernel_rfl) (fun _ _ _ h => h) (Or.inl ⟨by rfl, (by intro w hSw; have hs0 := Below.heldIn hSw (by simp; omega) e0; have hs1 := Below.heldIn hSw (by simp; omega) e1; have hs2 := Below.heldIn hSw (by simp; omega) e2; go_simp)⟩) (by assumption) ?_
      go_simp
      refine wpAnyH_ready (rs := [1, 7]) (by kernel_rfl) (by simp) ?_
      refine AllReadyH.cons (o := _) rfl (fun K hK => ?_) (AllReadyH.cons (o := _) rfl (fun K hK => ?_) AllReadyH.nil)
      · go_simp
        refine hK.out _ _ hHeld (fun hHeld3 => ?_)
        clear hK K
        refine wpAnyH_ready (rs := [7]) (by kernel_rfl) (by simp) ?_
        refine AllReadyH.cons (o := _) rfl (fun K hK => ?_) AllReadyH.nil
        go_simp
        refine hK.out _ _ (Below.drawnAlloc (unhide hLQ) (.cells #[.int .i64 c.kind, .int .i64 c.n, .string c.text] 30)) (fun hHeld3 => ?_)
        clear hK K
        refine wpAnyH_ready (rs := [8]) (by kernel_rfl) (by simp) ?_
        refine AllReadyH.cons (o := _) rfl (fun K hK => ?_) AllReadyH.nil
        refine step_appC rfl _ _ rfl cv (p.consts.take i) i htl rfl ((unhide HRo).keep (fun g hg => Below.heap_alloc _ _ _ ((unhide HRo).lt g hg))) ⟨wr.heap.size, 0, none⟩ 1 c rfl (by exact new_cells wr _ 30) (by omega) ?_
        intro v' w5 hr5 hg5 hat5
        obtain ⟨va, vcap, rfl, _⟩ := hr5.shape
        have hg5' : (wr.alloc (.cells #[.int .i64 c.kind, .int .i64 c.n, .string c.text] 30)).grownBy w5 (Value.ownBlock _) := ⟨hg5.os, hg5.tape, hg5.output, hg5.size, hg5.block⟩
        obtain ⟨k0, kf, f5, f6, A⟩ := (unhide hG).pushC hr5 (by simp [htl]) hg5' (by simpa using hat5)
        have hs5 : Below (w.heap.size + 2) wr w5 := f5.below (unhide hLQ) (unhide HNB)
        have hs6 := (unhide f6).below (unhide hLQ) (unhide HNB2)
        clear hr5 hg5 hg5' hat5 f5 f6
        refine hK.out _ _ hs5 (fun hHeld5 => ?_)
        clear hK K
        go_simp
        refine wpAnyH_take (i := 9) (oi := _) (v := .pointer (some ⟨w.heap.size + 1 + 1, 0, none⟩)) rfl (by kernel_rfl) (by kernel_rfl) (by kernel_rfl) (fun _ _ _ h => h) (Or.inl ⟨by rfl, (by intro w hSw; go_simp)⟩) (by assumption) ?_
        go_simp
        refine wpAnyH_ready (rs := [10]) (by kernel_rfl) (by simp) ?_
        refine AllReadyH.cons (o := _) rfl (fun K hK => ?_) AllReadyH.nil
        have hb5 : w.heap.size + 1 + 1 < w5.heap.size := World.block_lt_of_cell? _ _ k0
        go_simp
        refine hK.out _ _ hs6 (fun hHeld6 => ?_)
        clear hK K
        refine wpAnyH_done (by kernel_rfl) ?_ _
        clear hcA hHeld hHeld3 hHeld5 hHeld6 k0 kf hs5 hs6 hb5
        rw [← take_push (unhide HP)] at A
        go_wp2_with fail
        go_roundg (gk - 1)
        case measure => have := unhide hi; omega
        case rel => exact ⟨i + 1, _, by have := unhide hi; unfold Hid; omega, by go_num, A⟩
      · go_simp
        refine hK.out _ _ (Below.drawnAlloc (unhide hLQ) (.cells #[.int .i64 c.kind, .int .i64 c.n, .string c.text] 30)) (fun hHeld3 => ?_)
        clear hK K
        refine wpAnyH_ready (rs := [1]) (by kernel_rfl) (by simp) ?_
        refine AllReadyH.cons (o := _) rfl (fun K hK => ?_) AllReadyH.nil
        go_simp
        refine hK.out _ _ (Below.drawnAlloc (unhide hLQ) (.cells #[.int .i64 c.kind, .int .i64 c.n, .string c.text] 30)) (fun hHeld3 => ?_)
        clear hK K
        refine wpAnyH_ready (rs := [8]) (by kernel_rfl) (by simp) ?_
        refine AllReadyH.cons (o := _) rfl (fun K hK => ?_) AllReadyH.nil
        refine step_appC rfl _ _ rfl cv (p.consts.take i) i htl rfl ((unhide HRo).keep (fun g hg => Below.heap_alloc _ _ _ ((unhide HRo).lt g hg))) ⟨wr.heap.size, 0, none⟩ 1 c rfl (by exact new_cells wr _ 30) (by omega) ?_
        intro v' w5 hr5 hg5 hat5
        obtain ⟨va, vcap, rfl, _⟩ := hr5.shape
        have hg5' : (wr.alloc (.cells #[.int .i64 c.kind, .int .i64 c.n, .string c.text] 30)).grownBy w5 (Value.ownBlock _) := ⟨hg5.os, hg5.tape, hg5.output, hg5.size, hg5.block⟩
        obtain ⟨k0, kf, f5, f6, A⟩ := (unhide hG).pushC hr5 (by simp [htl]) hg5' (by simpa using hat5)
        have hs5 : Below (w.heap.size + 2) wr w5 := f5.below (unhide hLQ) (unhide HNB)
        have hs6 := (unhide f6).below (unhide hLQ) (unhide HNB2)
        clear hr5 hg5 hg5' hat5 f5 f6
        refine hK.out _ _ hs5 (fun hHeld5 => ?_)
        clear hK K
        go_simp
        refine wpAnyH_take (i := 9) (oi := _) (v := .pointer (some ⟨w.heap.size + 1 + 1, 0, none⟩)) rfl (by kernel_rfl) (by kernel_rfl) (by kernel_rfl) (fun _ _ _ h => h) (Or.inl ⟨by rfl, (by intro w hSw; go_simp)⟩) (by assumption) ?_
        go_simp
        refine wpAnyH_ready (rs := [10]) (by kernel_rfl) (by simp) ?_
        refine AllReadyH.cons (o := _) rfl (fun K hK => ?_) AllReadyH.nil
        have hb5 : w.heap.size + 1 + 1 < w5.heap.size := World.block_lt_of_cell? _ _ k0
        go_simp
        refine hK.out _ _ hs6 (fun hHeld6 => ?_)
        clear hK K
        refine wpAnyH_done (by kernel_rfl) ?_ _
        clear hcA hHeld hHeld3 hHeld5 hHeld6 k0 kf hs5 hs6 hb5
        rw [← take_push (unhide HP)] at A
        go_wp2_with fail
        go_roundg (gk - 1)
        case measure => have := unhide hi; omega
        case rel => exact ⟨i + 1, _, by have := unhide hi; unfold Hid; omega, by go_num, A⟩
    · have hiL : NC = i := by have := unhide hi; omega
      subst hiL
      have hG0 := unhide hG
      rw [List.take_of_length_le (by rw [unhide hNC]; exact Nat.le_refl _)] at hG0
      have HG0 := hide (show LP w1 (w.heap.size + 2) (w.heap.size + 1 + 1) (p.consts ++ mkC 0) [] cv (.slice none 0 0) wr by simpa [mkC] using hG0)
      clear hG hG0 hi q0 q1 qf hLQ HNB HNB2 hlt
      go_wp2_with fail
      clear P0 P1
      go_loopg [6] 64 (fun g t6 wr => ∃ (i : Nat) (cv : Value), Hid (i + g = 64) ∧ t6 = .int .i64 (i : Int) ∧ Hid (LP w1 (w.heap.size + 2) (w.heap.size + 1 + 1) (p.consts ++ mkC i) [] cv (.slice none 0 0) wr))
      case atStart => exact ⟨0, _, by unfold Hid; omega, rfl, HG0⟩
      case round =>
        clear HG0
        obtain ⟨i, cv, hi, rfl, hG⟩ := hrel
        obtain ⟨q0, q1, qf⟩ := (unhide hG).cells
        by_cases hlt : i < 64
        · have i1 : (i : Int) < 64 := by omega
          have htl : (p.consts ++ mkC i).length = NC + i := by rw [List.length_append, mkC_length, unhide hNC]
          have HRo := hide (show Ro wr 3 cv (NC + i) (flt enC (p.consts ++ mkC i)) by have := (unhide hG).co; rw [htl] at this; exact this)
          go_wp2_with (first | (at_builtin; refine wpList_appC rfl _ _ rfl cv (p.consts ++ mkC i) (NC + i) htl rfl ((unhide HRo).keep (fun g hg => Below.heap_alloc _ _ _ ((unhide HRo).lt g hg))) ⟨wr.heap.size, 0, none⟩ 1 ⟨-7, (i : Int), ByteArray.empty⟩ rfl (new_cells _ _ _) (by omega) ?_))
          intro v' w5 hr5 hg5 hat5
          obtain ⟨va, vcap, rfl, _⟩ := hr5.shape
          obtain ⟨k0, kf, f5, f6, A⟩ := (unhide hG).pushC hr5 (by simp [htl]) hg5 (by simpa using hat5)
          rw [List.append_assoc, ← mkC_succ] at A
          have hb5 : w.heap.size + 1 + 1 < w5.heap.size := World.block_lt_of_cell? _ _ k0
          clear hr5 hg5 hat5 f5 f6
          go_wp2_with fail
          go_roundg (gk - 1)
          case measure => have := unhide hi; omega
          case rel => exact ⟨i + 1, _, by have := unhide hi; unfold Hid; omega, by go_num, A⟩
        · have hi6 : i = 64 := by have := unhide hi; omega
          subst hi6
          have HG0 := hide (show LP w1 (w.heap.size + 2) (w.heap.size + 1 + 1) (p.consts ++ mkC 64) (xs0.take 0) cv (.slice none 0 0) wr by simpa using unhide hG)
          clear hG hi q0 q1 qf hlt
          go_wp2_with fail
          go_loopg [7] NF (fun g t6 wr => ∃ (i : Nat) (fv : Value), Hid (i + g = NF) ∧ t6 = .int .i64 (i : Int) ∧ Hid (LP w1 (w.heap.size + 2) (w.heap.size + 1 + 1) (p.consts ++ mkC 64) (xs0.take i) cv fv wr))
          case atStart => exact ⟨0, _, by unfold Hid; omega, rfl, HG0⟩
          case round =>
            clear HG0
            obtain ⟨i, fv, hi, rfl, hG⟩ := hrel
            have P1 := Below.heldIn (unhide hG).below (by simp) (unhide HP1).2.1
            obtain ⟨q0, q1, qf⟩ := (unhide hG).cells
            have hLQ : Hid (w.heap.size + 2 ≤ wr.heap.size) := by have := (unhide hG).qlt; unfold Hid; omega
            have HNB : Hid (∀ k, k < w.heap.size + 2 → ¬ (fv.ownBlock = some k)) := by unfold Hid; intro k hk e; have := (unhide hG).fb k e; omega
            have HNB2 : Hid (∀ k, k < w.heap.size + 2 → ¬ (fv.ownBlock = some k ∨ k = w.heap.size + 1 + 1)) := by
              unfold Hid; intro k hk e
              rcases e with e | e
              · have := (unhide hG).fb k e; omega
              · omega
            by_cases hlt : i < NF
            · have hil : i < xs0.length := by rw [unhide hX0]; exact hlt
              obtain ⟨x, hp⟩ : ∃ x, xs0[i]? = some x := ⟨_, List.getElem?_eq_getElem hil⟩
              obtain ⟨f, hpf⟩ : ∃ f, p.funcs[i]? = some f := ⟨_, List.getElem?_eq_getElem (by rw [unhide hNF]; exact hlt)⟩
              obtain ⟨b, off, _, e, _, _, hb, hcs⟩ := unhide HXA i x hp
              cases e
              obtain ⟨a1, c1, a2, c2, rfl⟩ := (unhide HX3 i f x hpf hp).parts
              have e0 := Below.heldIn (unhide hG).below (by simp; omega) (Below.heldIn (unhide HP1).2.2 hb (hcs 0 _ rfl))
              have e1 := Below.heldIn (unhide hG).below (by simp; omega) (Below.heldIn (unhide HP1).2.2 hb (hcs 1 _ rfl))
              have e2 := Below.heldIn (unhide hG).below (by simp; omega) (Below.heldIn (unhide HP1).2.2 hb (hcs 2 _ rfl))
              have e3 := Below.heldIn (unhide hG).below (by simp; omega) (Below.heldIn (unhide HP1).2.2 hb (hcs 3 _ rfl))
              have e4 := Below.heldIn (unhide hG).below (by simp; omega) (Below.heldIn (unhide HP1).2.2 hb (hcs 4 _ rfl))
              rw [Nat.add_zero] at e0
              have i0 : (0 : Int) ≤ (i : Int) := by omega
              have i1 : (i : Int) < (NF : Int) := by omega
              have htl : (xs0.take i).length = i := by simp; omega
              have HRo := hide (show Ro wr 5 fv i (flt enF (xs0.take i)) by have := (unhide hG).fo; rw [htl] at this; exact this)
              have hcA : (wr.alloc (.cells #[.string f.name, .int .i64 f.params, .int .i64 f.locals, .slice a1 f.code.length c1, .slice a2 f.hs.length c2] 34)).cell? ⟨w.heap.size + 1 + 1, 1, none⟩ = some fv := (World.cell?_of_block (Below.heap_alloc _ _ _ (unhide hG).qlt)).trans q1
              have HP := hide hp
              clear hcs hp
              go_wp2_with fail
              refine wp_region_held_drew (S := (fun wx => Below (w.heap.size + 2) wr wx)) (by kernel_rfl) (Below.drawn (Below.refl _ _)) (fun hHeld => ?_)
              refine wpAnyH_take (i := 0) (oi := _) (v := .pointer (some ⟨w.heap.size + 1 + 1, 1, none⟩)) rfl (by kernel_rfl) (by kernel_rfl) (by kernel_rfl) (fun _ _ _ h => h) (Or.inl ⟨by rfl, (by intro w hSw; go_simp)⟩) (by assumption) ?_
              refine wpAnyH_take (i := 2) (oi := _) (v := .pointer (some ⟨w.heap.size, 1, none⟩)) rfl (by kernel_rfl) (by kernel_rfl) (by kernel_rfl) (fun _ _ _ h => h) (Or.inl ⟨by rfl, (by intro w hSw; go_simp)⟩) (by assumption) ?_
              refine wpAnyH_take (i := 3) (oi := _) (v := .slice (some ⟨b, off, none⟩) NF cap) rfl (by kernel_rfl) (by kernel_rfl) (by kernel_rfl) (fun _ _ _ h => h) (Or.inl ⟨by rfl, (by intro w hSw; have hs0 := Below.heldIn hSw (by simp) P1; go_simp)⟩) (by assumption) ?_
              go_simp
              refine wpAnyH_take (i := 4) (oi := _) (v := .int .i64 (i : Int)) rfl (by kernel_rfl) (by kernel_rfl) (by kernel_rfl) (fun _ _ _ h => h) (Or.inl ⟨by rfl, (by intro w hSw; go_simp)⟩) (by assumption) ?_
              refine wpAnyH_take (i := 5) (oi := _) (v := .pointer (some ⟨b, off + i * 5, none⟩)) rfl (by kernel_rfl) (by kernel_rfl) (by kernel_rfl) (fun _ _ _ h => h) (Or.inl ⟨by rfl, (by intro w hSw; go_simp)⟩) (by assumption) ?_
              go_simp
              refine wpAnyH_take (i := 6) (oi := _) (v := .agg #[.string f.name, .int .i64 f.params, .int .i64 f.locals, .slice a1 f.code.length c1, .slice a2 f.hs.length c2]) rfl (by kernel_rfl) (by kernel_rfl) (by kernel_rfl) (fun _ _ _ h => h) (Or.inl ⟨by rfl, (by intro w hSw; have hs0 := Below.heldIn hSw (by simp; omega) e0; have hs1 := Below.heldIn hSw (by simp; omega) e1; have hs2 := Below.heldIn hSw (by simp; omega) e2; have hs3 := Below.heldIn hSw (by simp; omega) e3; have hs4 := Below.heldIn hSw (by simp; omega) e4; go_simp)⟩) (by assumption) ?_
              go_simp
              refine wpAnyH_ready (rs := [1, 7]) (by kernel_rfl) (by simp) ?_
              refine AllReadyH.cons (o := _) rfl (fun K hK => ?_) (AllReadyH.cons (o := _) rfl (fun K hK => ?_) AllReadyH.nil)
              · go_simp
                refine hK.out _ _ hHeld (fun hHeld3 => ?_)
                clear hK K
                refine wpAnyH_ready (rs := [7]) (by kernel_rfl) (by simp) ?_
                refine AllReadyH.cons (o := _) rfl (fun K hK => ?_) AllReadyH.nil
                go_simp
                refine hK.out _ _ (Below.drawnAlloc (unhide hLQ) (.cells #[.string f.name, .int .i64 f.params, .int .i64 f.locals, .slice a1 f.code.length c1, .slice a2 f.hs.length c2] 34)) (fun hHeld3 => ?_)
                clear hK K
                refine wpAnyH_ready (rs := [8]) (by kernel_rfl) (by simp) ?_
                refine AllReadyH.cons (o := _) rfl (fun K hK => ?_) AllReadyH.nil
                refine step_appF rfl _ _ rfl fv (xs0.take i) i htl rfl ((unhide HRo).keep (fun g hg => Below.heap_alloc _ _ _ ((unhide HRo).lt g hg))) ⟨wr.heap.size, 0, none⟩ 1 ⟨f.name, f.params, f.locals, .slice a1 f.code.length c1, .slice a2 f.hs.length c2⟩ rfl (by exact new_cells wr _ 34) rfl rfl (by omega) ?_
                intro v' w5 hr5 hg5 hat5
                obtain ⟨va, vcap, rfl, _⟩ := hr5.shape
                have hg5' : (wr.alloc (.cells #[.string f.name, .int .i64 f.params, .int .i64 f.locals, .slice a1 f.code.length c1, .slice a2 f.hs.length c2] 34)).grownBy w5 (Value.ownBlock _) := ⟨hg5.os, hg5.tape, hg5.output, hg5.size, hg5.block⟩
                obtain ⟨k0, kf, f5, f6, A⟩ := (unhide hG).pushF hr5 (by simp [htl]) hg5' (by simpa using hat5)
                have hs5 : Below (w.heap.size + 2) wr w5 := f5.below (unhide hLQ) (unhide HNB)
                have hs6 := (unhide f6).below (unhide hLQ) (unhide HNB2)
                clear hr5 hg5 hg5' hat5 f5 f6
                refine hK.out _ _ hs5 (fun hHeld5 => ?_)
                clear hK K
                go_simp
                refine wpAnyH_take (i := 9) (oi := _) (v := .pointer (some ⟨w.heap.size + 1 + 1, 1, none⟩)) rfl (by kernel_rfl) (by kernel_rfl) (by kernel_rfl) (fun _ _ _ h => h) (Or.inl ⟨by rfl, (by intro w hSw; go_simp)⟩) (by assumption) ?_
                go_simp
                refine wpAnyH_ready (rs := [10]) (by kernel_rfl) (by simp) ?_
                refine AllReadyH.cons (o := _) rfl (fun K hK => ?_) AllReadyH.nil
                have hb5 : w.heap.size + 1 + 1 < w5.heap.size := World.block_lt_of_cell? _ _ k0
                go_simp
                refine hK.out _ _ hs6 (fun hHeld6 => ?_)
                clear hK K
                refine wpAnyH_done (by kernel_rfl) ?_ _
                clear hcA hHeld hHeld3 hHeld5 hHeld6 k0 kf hs5 hs6 hb5
                rw [← take_push (unhide HP)] at A
                go_wp2_with fail
                go_roundg (gk - 1)
                case measure => have := unhide hi; omega
                case rel => exact ⟨i + 1, _, by have := unhide hi; unfold Hid; omega, by go_num, A⟩
              · go_simp
                refine hK.out _ _ (Below.drawnAlloc (unhide hLQ) (.cells #[.string f.name, .int .i64 f.params, .int .i64 f.locals, .slice a1 f.code.length c1, .slice a2 f.hs.length c2] 34)) (fun hHeld3 => ?_)
                clear hK K
                refine wpAnyH_ready (rs := [1]) (by kernel_rfl) (by simp) ?_
                refine AllReadyH.cons (o := _) rfl (fun K hK => ?_) AllReadyH.nil
                go_simp
                refine hK.out _ _ (Below.drawnAlloc (unhide hLQ) (.cells #[.string f.name, .int .i64 f.params, .int .i64 f.locals, .slice a1 f.code.length c1, .slice a2 f.hs.length c2] 34)) (fun hHeld3 => ?_)
                clear hK K
                refine wpAnyH_ready (rs := [8]) (by kernel_rfl) (by simp) ?_
                refine AllReadyH.cons (o := _) rfl (fun K hK => ?_) AllReadyH.nil
                refine step_appF rfl _ _ rfl fv (xs0.take i) i htl rfl ((unhide HRo).keep (fun g hg => Below.heap_alloc _ _ _ ((unhide HRo).lt g hg))) ⟨wr.heap.size, 0, none⟩ 1 ⟨f.name, f.params, f.locals, .slice a1 f.code.length c1, .slice a2 f.hs.length c2⟩ rfl (by exact new_cells wr _ 34) rfl rfl (by omega) ?_
                intro v' w5 hr5 hg5 hat5
                obtain ⟨va, vcap, rfl, _⟩ := hr5.shape
                have hg5' : (wr.alloc (.cells #[.string f.name, .int .i64 f.params, .int .i64 f.locals, .slice a1 f.code.length c1, .slice a2 f.hs.length c2] 34)).grownBy w5 (Value.ownBlock _) := ⟨hg5.os, hg5.tape, hg5.output, hg5.size, hg5.block⟩
                obtain ⟨k0, kf, f5, f6, A⟩ := (unhide hG).pushF hr5 (by simp [htl]) hg5' (by simpa using hat5)
                have hs5 : Below (w.heap.size + 2) wr w5 := f5.below (unhide hLQ) (unhide HNB)
                have hs6 := (unhide f6).below (unhide hLQ) (unhide HNB2)
                clear hr5 hg5 hg5' hat5 f5 f6
                refine hK.out _ _ hs5 (fun hHeld5 => ?_)
                clear hK K
                go_simp
                refine wpAnyH_take (i := 9) (oi := _) (v := .pointer (some ⟨w.heap.size + 1 + 1, 1, none⟩)) rfl (by kernel_rfl) (by kernel_rfl) (by kernel_rfl) (fun _ _ _ h => h) (Or.inl ⟨by rfl, (by intro w hSw; go_simp)⟩) (by assumption) ?_
                go_simp
                refine wpAnyH_ready (rs := [10]) (by kernel_rfl) (by simp) ?_
                refine AllReadyH.cons (o := _) rfl (fun K hK => ?_) AllReadyH.nil
                have hb5 : w.heap.size + 1 + 1 < w5.heap.size := World.block_lt_of_cell? _ _ k0
                go_simp
                refine hK.out _ _ hs6 (fun hHeld6 => ?_)
                clear hK K
                refine wpAnyH_done (by kernel_rfl) ?_ _
                clear hcA hHeld hHeld3 hHeld5 hHeld6 k0 kf hs5 hs6 hb5
                rw [← take_push (unhide HP)] at A
                go_wp2_with fail
                go_roundg (gk - 1)
                case measure => have := unhide hi; omega
                case rel => exact ⟨i + 1, _, by have := unhide hi; unfold Hid; omega, by go_num, A⟩
            · have hiL : NF = i := by have := unhide hi; omega
              subst hiL
              have hG0 := unhide hG
              rw [List.take_of_length_le (by rw [unhide hX0]; exact Nat.le_refl _)] at hG0
              have HG0 := hide (show LP w1 (w.heap.size + 2) (w.heap.size + 1 + 1) (p.consts ++ mkC 64) (xs0 ++ []) cv fv wr by simpa using hG0)
              clear hG hG0 hi P1 q0 q1 qf hLQ HNB HNB2 hlt
              go_wp2_with fail
              go_loopg [8] NF (fun g t6 wr => ∃ (i : Nat) (fv : Value) (ys : List Fv), Hid (i + g = NF) ∧ t6 = .int .i64 (i : Int) ∧ Hid (ys.length = i) ∧ Hid (LP w1 (w.heap.size + 2) (w.heap.size + 1 + 1) (p.consts ++ mkC 64) (xs0 ++ ys) cv fv wr) ∧ Hid (OwnY (w.heap.size + 1 + 1) cv fv p.funcs ys wr))
              case atStart => exact ⟨0, _, [], by unfold Hid; omega, rfl, rfl, HG0, OwnY.nil _ _ _ _ _⟩
              case round =>
                clear HG0
                obtain ⟨i, fv, ys, hi, rfl, hyl, hG, hO⟩ := hrel
                have P1 := Below.heldIn (unhide hG).below (by simp) (unhide HP1).2.1
                obtain ⟨q0, q1, qf⟩ := (unhide hG).cells
                have hLQ : Hid (w.heap.size + 2 ≤ wr.heap.size) := by have := (unhide hG).qlt; unfold Hid; omega
                have HNB : Hid (∀ k, k < w.heap.size + 2 → ¬ (fv.ownBlock = some k)) := by unfold Hid; intro k hk e; have := (unhide hG).fb k e; omega
                have HNB2 : Hid (∀ k, k < w.heap.size + 2 → ¬ (fv.ownBlock = some k ∨ k = w.heap.size + 1 + 1)) := by
                  unfold Hid; intro k hk e
                  rcases e with e | e
                  · have := (unhide hG).fb k e; omega
                  · omega
                by_cases hlt : i < NF
                · have hil : i < xs0.length := by rw [unhide hX0]; exact hlt
                  obtain ⟨x, hp⟩ : ∃ x, xs0[i]? = some x := ⟨_, List.getElem?_eq_getElem hil⟩
                  obtain ⟨f, hpf⟩ : ∃ f, p.funcs[i]? = some f := ⟨_, List.getElem?_eq_getElem (by rw [unhide hNF]; exact hlt)⟩
                  obtain ⟨b, off, _, e, _, _, hb, hcs⟩ := unhide HXA i x hp
                  cases e
                  have hfv := unhide HX3 i f x hpf hp
                  obtain ⟨a1, c1, a2, c2, rfl⟩ := hfv.parts
                  have hBw := (unhide HP1).2.2.trans ((unhide hG).below.mono (by omega))
                  have rI := hfv.2.2.2.1.below hBw (Nat.le_refl _)
                  have rH := hfv.2.2.2.2.below hBw (Nat.le_refl _)
                  simp only at rI rH
                  have e3 := Below.heldIn hBw hb (hcs 3 _ rfl)
                  have e4 := Below.heldIn hBw hb (hcs 4 _ rfl)
                  simp only at e3 e4
                  have bH : Hid (f.hs.length ≤ 4398046510976) := by have := ((unhide HBD) i f hpf).2; unfold Hid; omega
                  have HC1 := hide (fullI_any (w := wr.drew) (rI.below (Below.drawn (Below.refl _ _)) (Nat.le_refl _)) (by have := ((unhide HBD) i f hpf).1; omega))
                  obtain ⟨n1, hn1⟩ : ∃ n, Hid ((f.code ++ mkI 64).length = n) := ⟨_, rfl⟩
                  obtain ⟨n2, hn2⟩ : ∃ n, Hid ((f.hs ++ mkH 64).length = n) := ⟨_, rfl⟩
                  have i0 : (0 : Int) ≤ (i : Int) := by omega
                  have i1 : (i : Int) < (NF : Int) := by omega
                  have htl : (xs0 ++ ys).length = NF + i := by rw [List.length_append, unhide hX0, unhide hyl]
                  have HPF := hide hpf
                  clear hcs hp hfv hBw hpf
                  go_wp2_with fail
                  refine wp_region_held_drew (S := (fun wx => Below (w.heap.size + 2) wr wx)) (by kernel_rfl) (Below.drawn (Below.refl _ _)) (fun hHeld => ?_)
                  refine wpAnyH_take (i := 0) (oi := _) (v := .pointer (some ⟨w.heap.size + 1 + 1, 1, none⟩)) rfl (by kernel_rfl) (by kernel_rfl) (by kernel_rfl) (fun _ _ _ h => h) (Or.inl ⟨by rfl, (by intro w hSw; go_simp)⟩) (by assumption) ?_
                  refine wpAnyH_take (i := 2) (oi := _) (v := .int .i64 (i : Int)) rfl (by kernel_rfl) (by kernel_rfl) (by kernel_rfl) (fun _ _ _ h => h) (Or.inl ⟨by rfl, (by intro w hSw; go_simp)⟩) (by assumption) ?_
                  refine wpAnyH_take (i := 3) (oi := _) (v := .pointer (some ⟨w.heap.size, 1, none⟩)) rfl (by kernel_rfl) (by kernel_rfl) (by kernel_rfl) (fun _ _ _ h => h) (Or.inl ⟨by rfl, (by intro w hSw; go_simp)⟩) (by assumption) ?_
                  refine wpAnyH_take (i := 4) (oi := _) (v := .slice (some ⟨b, off, none⟩) NF cap) rfl (by kernel_rfl) (by kernel_rfl) (by kernel_rfl) (fun _ _ _ h => h) (Or.inl ⟨by rfl, (by intro w hSw; have hs0 := Below.heldIn hSw (by simp) P1; go_simp)⟩) (by assumption) ?_
                  go_simp
                  refine wpAnyH_take (i := 5) (oi := _) (v := .int .i64 (i : Int)) rfl (by kernel_rfl) (by kernel_rfl) (by kernel_rfl) (fun _ _ _ h => h) (Or.inl ⟨by rfl, (by intro w hSw; go_simp)⟩) (by assumption) ?_
                  refine wpAnyH_take (i := 6) (oi := _) (v := .pointer (some ⟨b, off + i * 5, none⟩)) rfl (by kernel_rfl) (by kernel_rfl) (by kernel_rfl) (fun _ _ _ h => h) (Or.inl ⟨by rfl, (by intro w hSw; go_simp)⟩) (by assumption) ?_
                  refine wpAnyH_take (i := 7) (oi := _) (v := .pointer (some ⟨b, off + i * 5 + 3, none⟩)) rfl (by kernel_rfl) (by kernel_rfl) (by kernel_rfl) (fun _ _ _ h => h) (Or.inl ⟨by rfl, (by intro w hSw; go_simp)⟩) (by assumption) ?_
                  go_simp
                  refine wpAnyH_take (i := 8) (oi := _) (v := .slice a1 f.code.length c1) rfl (by kernel_rfl) (by kernel_rfl) (by kernel_rfl) (fun _ _ _ h => h) (Or.inl ⟨by rfl, (by intro w hSw; have hs0 := Below.heldIn hSw (by simp; omega) e3; go_simp)⟩) (by assumption) ?_
                  refine wpAnyH_take (i := 10) (oi := _) (v := .pointer (some ⟨w.heap.size, 1, none⟩)) rfl (by kernel_rfl) (by kernel_rfl) (by kernel_rfl) (fun _ _ _ h => h) (Or.inl ⟨by rfl, (by intro w hSw; go_simp)⟩) (by assumption) ?_
                  refine wpAnyH_take (i := 11) (oi := _) (v := .slice (some ⟨b, off, none⟩) NF cap) rfl (by kernel_rfl) (by kernel_rfl) (by kernel_rfl) (fun _ _ _ h => h) (Or.inl ⟨by rfl, (by intro w hSw; have hs0 := Below.heldIn hSw (by simp) P1; go_simp)⟩) (by assumption) ?_
                  refine wpAnyH_take (i := 12) (oi := _) (v := .int .i64 (i : Int)) rfl (by kernel_rfl) (by kernel_rfl) (by kernel_rfl) (fun _ _ _ h => h) (Or.inl ⟨by rfl, (by intro w hSw; go_simp)⟩) (by assumption) ?_
                  go_simp
                  refine wpAnyH_take (i := 13) (oi := _) (v := .pointer (some ⟨b, off + i * 5, none⟩)) rfl (by kernel_rfl) (by kernel_rfl) (by kernel_rfl) (fun _ _ _ h => h) (Or.inl ⟨by rfl, (by intro w hSw; go_simp)⟩) (by assumption) ?_
                  refine wpAnyH_take (i := 14) (oi := _) (v := .pointer (some ⟨b, off + i * 5 + 4, none⟩)) rfl (by kernel_rfl) (by kernel_rfl) (by kernel_rfl) (fun _ _ _ h => h) (Or.inl ⟨by rfl, (by intro w hSw; go_simp)⟩) (by assumption) ?_
                  go_simp
                  refine wpAnyH_take (i := 15) (oi := _) (v := .slice a2 f.hs.length c2) rfl (by kernel_rfl) (by kernel_rfl) (by kernel_rfl) (fun _ _ _ h => h) (Or.inl ⟨by rfl, (by intro w hSw; have hs0 := Below.heldIn hSw (by simp; omega) e4; go_simp)⟩) (by assumption) ?_
                  go_simp
                  refine wpAnyH_ready (rs := [1, 9]) (by kernel_rfl) (by simp) ?_
                  refine AllReadyH.cons (o := _) rfl (fun K hK => ?_) (AllReadyH.cons (o := _) rfl (fun K hK => ?_) AllReadyH.nil)
                  · go_simp
                    refine hK.out _ _ hHeld (fun hHeld3 => ?_)
                    clear hK K hHeld3
                    refine wpAnyH_ready (rs := [9]) (by kernel_rfl) (by simp) ?_
                    refine AllReadyH.cons (o := _) rfl (fun K hK => ?_) AllReadyH.nil
                    go_simp
                    refine (unhide HC1).mono ?_
                    rintro e w2 ⟨v1, rfl, g1'⟩
                    have g1 := g1'.undrew
                    obtain ⟨va1, vc1, rfl, _⟩ := g1.1.shape
                    rw [unhide hn1] at g1
                    have hz2 := g1.2.1.size
                    have hs2 : Below (w.heap.size + 2) wr w2 := g1.2.1.mono (unhide hLQ)
                    have q12 := ((unhide hG).keep g1.2.1).cells.2.1
                    have HC2 := hide (fullH_any (w := w2) (rH.below g1.2.1 (Nat.le_refl _)) (unhide bH))
                    have HG1 := hide g1
                    clear g1 g1'
                    rw [unhide hn1]
                    go_simp
                    refine hK.out _ _ hs2 (fun hHeld1 => ?_)
                    clear hK K hHeld1
                    refine wpAnyH_ready (rs := [16]) (by kernel_rfl) (by simp) ?_
                    refine AllReadyH.cons (o := _) rfl (fun K hK => ?_) AllReadyH.nil
                    go_simp
                    refine (unhide HC2).mono ?_
                    rintro e w3 ⟨v2, rfl, g2⟩
                    obtain ⟨va2, vc2, rfl, _⟩ := g2.1.shape
                    rw [unhide hn2] at g2
                    have b3 : Below wr.heap.size wr w3 := (unhide HG1).2.1.trans (g2.2.1.mono hz2)
                    have hz3 := b3.size
                    have hs3 : Below (w.heap.size + 2) wr w3 := b3.mono (unhide hLQ)
                    have hG3 := (unhide hG).keep b3
                    have q13 := hG3.cells.2.1
                    have HRo3 := hide (show Ro w3 5 fv (NF + i) (flt enF (xs0 ++ ys)) by have := hG3.fo; rw [htl] at this; exact this)
                    have O3 := hide ((unhide hO).push (by rw [unhide hyl]; exact unhide HPF) (unhide hG).qlt (unhide hG).co.lt (unhide hG).fo.lt (unhide HG1) g2 (N := i) (unhide hyl).symm)
                    have hcA3 : (w3.alloc (.cells #[.string ByteArray.empty, .int .i64 (-7), .int .i64 (i : Int), .slice va1 n1 vc1, .slice va2 n2 vc2] 34)).cell? ⟨w.heap.size + 1 + 1, 1, none⟩ = some fv := (World.cell?_of_block (Below.heap_alloc _ _ _ hG3.qlt)).trans q13
                    have HG3 := hide hG3
                    clear g2 b3 hG3
                    rw [unhide hn2]
                    go_simp
                    refine hK.out _ _ hs3 (fun hHeld2 => ?_)
                    clear hK K hHeld2
                    refine wpAnyH_take (i := 17) (oi := _) (v := .agg #[.string ByteArray.empty, .int .i64 (-7), .int .i64 (i : Int), .slice va1 n1 vc1, .slice va2 n2 vc2]) rfl (by kernel_rfl) (by kernel_rfl) (by kernel_rfl) (fun _ _ _ h => h) (Or.inl ⟨by rfl, (by intro w hSw; first | (go_simp; done) | (go_simp; rfl))⟩) hs3 ?_
                    go_simp
                    refine wpAnyH_ready (rs := [18]) (by kernel_rfl) (by simp) ?_
                    refine AllReadyH.cons (o := _) rfl (fun K hK => ?_) AllReadyH.nil
                    go_simp
                    have hs4 : Below (w.heap.size + 2) wr (w3.alloc (.cells #[.string ByteArray.empty, .int .i64 (-7), .int .i64 (i : Int), .slice va1 n1 vc1, .slice va2 n2 vc2] 34)) := hs3.alloc (Nat.le_trans (unhide hLQ) hz3) _
                    refine hK.out _ _ hs4 (fun hHeld4 => ?_)
                    clear hK K hHeld4
                    refine wpAnyH_ready (rs := [19]) (by kernel_rfl) (by simp) ?_
                    refine AllReadyH.cons (o := _) rfl (fun K hK => ?_) AllReadyH.nil
                    refine step_appF rfl _ _ rfl fv (xs0 ++ ys) (NF + i) htl rfl ((unhide HRo3).keep (fun g hg => Below.heap_alloc _ _ _ ((unhide HRo3).lt g hg))) ⟨w3.heap.size, 0, none⟩ 1 ⟨ByteArray.empty, -7, (i : Int), .slice va1 n1 vc1, .slice va2 n2 vc2⟩ rfl (by exact new_cells w3 _ 34) rfl rfl (by omega) ?_
                    intro v' w5 hr5 hg5 hat5
                    obtain ⟨va, vcap, rfl, _⟩ := hr5.shape
                    obtain ⟨k0, kf, f5, f6, A⟩ := (unhide HG3).pushF hr5 (by simp [htl]) hg5 (by simpa using hat5)
                    have hs5 : Below (w.heap.size + 2) wr w5 := hs3.trans (f5.below (Nat.le_trans (unhide hLQ) hz3) (unhide HNB))
                    have hs6 := hs3.trans ((unhide f6).below (Nat.le_trans (unhide hLQ) hz3) (unhide HNB2))
                    have O6 := hide ((unhide O3).fr (unhide f6) (by
                      rcases hat5 with e | e
                      · exact .inl e
                      · exact .inr ⟨_, e, by simp⟩))
                    rw [List.append_assoc] at A
                    clear hr5 hg5 hat5 f5 f6
                    refine hK.out _ _ hs5 (fun hHeld5 => ?_)
                    clear hK K
                    go_simp
                    refine wpAnyH_take (i := 20) (oi := _) (v := .pointer (some ⟨w.heap.size + 1 + 1, 1, none⟩)) rfl (by kernel_rfl) (by kernel_rfl) (by kernel_rfl) (fun _ _ _ h => h) (Or.inl ⟨by rfl, (by intro w hSw; go_simp)⟩) (by assumption) ?_
                    go_simp
                    refine wpAnyH_ready (rs := [21]) (by kernel_rfl) (by simp) ?_
                    refine AllReadyH.cons (o := _) rfl (fun K hK => ?_) AllReadyH.nil
                    have hb5 : w.heap.size + 1 + 1 < w5.heap.size := World.block_lt_of_cell? _ _ k0
                    go_simp
                    refine hK.out _ _ hs6 (fun hHeld6 => ?_)
                    clear hK K
                    refine wpAnyH_done (by kernel_rfl) ?_ _
                    clear hHeld hHeld5 hHeld6 k0 kf hs5 hs6 hb5 hcA3 hs3 hs2
                    go_wp2_with fail
                    go_roundg (gk - 1)
                    case measure => have := unhide hi; omega
                    case rel => exact ⟨i + 1, _, _, by have := unhide hi; unfold Hid; omega, by go_num, by unfold Hid; rw [List.length_append, unhide hyl]; rfl, A, O6⟩
                  · go_simp
                    refine (unhide HC1).mono ?_
                    rintro e w2 ⟨v1, rfl, g1'⟩
                    have g1 := g1'.undrew
                    obtain ⟨va1, vc1, rfl, _⟩ := g1.1.shape
                    rw [unhide hn1] at g1
                    have hz2 := g1.2.1.size
                    have hs2 : Below (w.heap.size + 2) wr w2 := g1.2.1.mono (unhide hLQ)
                    have q12 := ((unhide hG).keep g1.2.1).cells.2.1
                    have HC2 := hide (fullH_any (w := w2) (rH.below g1.2.1 (Nat.le_refl _)) (unhide bH))
                    have HG1 := hide g1
                    clear g1 g1'
                    rw [unhide hn1]
                    go_simp
                    refine hK.out _ _ hs2 (fun hHeld1 => ?_)
                    clear hK K hHeld1
                    refine wpAnyH_ready (rs := [1, 16]) (by kernel_rfl) (by simp) ?_
                    refine AllReadyH.cons (o := _) rfl (fun K hK => ?_) (AllReadyH.cons (o := _) rfl (fun K hK => ?_) AllReadyH.nil)
                    · go_simp
                      refine hK.out _ _ hs2 (fun hHeld3 => ?_)
                      clear hK K hHeld3
                      refine wpAnyH_ready (rs := [16]) (by kernel_rfl) (by simp) ?_
                      refine AllReadyH.cons (o := _) rfl (fun K hK => ?_) AllReadyH.nil
                      go_simp
                      refine (unhide HC2).mono ?_
                      rintro e w3 ⟨v2, rfl, g2⟩
                      obtain ⟨va2, vc2, rfl, _⟩ := g2.1.shape
                      rw [unhide hn2] at g2
                      have b3 : Below wr.heap.size wr w3 := (unhide HG1).2.1.trans (g2.2.1.mono hz2)
                      have hz3 := b3.size
                      have hs3 : Below (w.heap.size + 2) wr w3 := b3.mono (unhide hLQ)
                      have hG3 := (unhide hG).keep b3
                      have q13 := hG3.cells.2.1
                      have HRo3 := hide (show Ro w3 5 fv (NF + i) (flt enF (xs0 ++ ys)) by have := hG3.fo; rw [htl] at this; exact this)
                      have O3 := hide ((unhide hO).push (by rw [unhide hyl]; exact unhide HPF) (unhide hG).qlt (unhide hG).co.lt (unhide hG).fo.lt (unhide HG1) g2 (N := i) (unhide hyl).symm)
                      have hcA3 : (w3.alloc (.cells #[.string ByteArray.empty, .int .i64 (-7), .int .i64 (i : Int), .slice va1 n1 vc1, .slice va2 n2 vc2] 34)).cell? ⟨w.heap.size + 1 + 1, 1, none⟩ = some fv := (World.cell?_of_block (Below.heap_alloc _ _ _ hG3.qlt)).trans q13
                      have HG3 := hide hG3
                      clear g2 b3 hG3
                      rw [unhide hn2]
                      go_simp
                      refine hK.out _ _ hs3 (fun hHeld2 => ?_)
                      clear hK K hHeld2
                      refine wpAnyH_take (i := 17) (oi := _) (v := .agg #[.string ByteArray.empty, .int .i64 (-7), .int .i64 (i : Int), .slice va1 n1 vc1, .slice va2 n2 vc2]) rfl (by kernel_rfl) (by kernel_rfl) (by kernel_rfl) (fun _ _ _ h => h) (Or.inl ⟨by rfl, (by intro w hSw; first | (go_simp; done) | (go_simp; rfl))⟩) hs3 ?_
                      go_simp
                      refine wpAnyH_ready (rs := [18]) (by kernel_rfl) (by simp) ?_
                      refine AllReadyH.cons (o := _) rfl (fun K hK => ?_) AllReadyH.nil
                      go_simp
                      have hs4 : Below (w.heap.size + 2) wr (w3.alloc (.cells #[.string ByteArray.empty, .int .i64 (-7), .int .i64 (i : Int), .slice va1 n1 vc1, .slice va2 n2 vc2] 34)) := hs3.alloc (Nat.le_trans (unhide hLQ) hz3) _
                      refine hK.out _ _ hs4 (fun hHeld4 => ?_)
                      clear hK K hHeld4
                      refine wpAnyH_ready (rs := [19]) (by kernel_rfl) (by simp) ?_
                      refine AllReadyH.cons (o := _) rfl (fun K hK => ?_) AllReadyH.nil
                      refine step_appF rfl _ _ rfl fv (xs0 ++ ys) (NF + i) htl rfl ((unhide HRo3).keep (fun g hg => Below.heap_alloc _ _ _ ((unhide HRo3).lt g hg))) ⟨w3.heap.size, 0, none⟩ 1 ⟨ByteArray.empty, -7, (i : Int), .slice va1 n1 vc1, .slice va2 n2 vc2⟩ rfl (by exact new_cells w3 _ 34) rfl rfl (by omega) ?_
                      intro v' w5 hr5 hg5 hat5
                      obtain ⟨va, vcap, rfl, _⟩ := hr5.shape
                      obtain ⟨k0, kf, f5, f6, A⟩ := (unhide HG3).pushF hr5 (by simp [htl]) hg5 (by simpa using hat5)
                      have hs5 : Below (w.heap.size + 2) wr w5 := hs3.trans (f5.below (Nat.le_trans (unhide hLQ) hz3) (unhide HNB))
                      have hs6 := hs3.trans ((unhide f6).below (Nat.le_trans (unhide hLQ) hz3) (unhide HNB2))
                      have O6 := hide ((unhide O3).fr (unhide f6) (by
                        rcases hat5 with e | e
                        · exact .inl e
                        · exact .inr ⟨_, e, by simp⟩))
                      rw [List.append_assoc] at A
                      clear hr5 hg5 hat5 f5 f6
                      refine hK.out _ _ hs5 (fun hHeld5 => ?_)
                      clear hK K
                      go_simp
                      refine wpAnyH_take (i := 20) (oi := _) (v := .pointer (some ⟨w.heap.size + 1 + 1, 1, none⟩)) rfl (by kernel_rfl) (by kernel_rfl) (by kernel_rfl) (fun _ _ _ h => h) (Or.inl ⟨by rfl, (by intro w hSw; go_simp)⟩) (by assumption) ?_
                      go_simp
                      refine wpAnyH_ready (rs := [21]) (by kernel_rfl) (by simp) ?_
                      refine AllReadyH.cons (o := _) rfl (fun K hK => ?_) AllReadyH.nil
                      have hb5 : w.heap.size + 1 + 1 < w5.heap.size := World.block_lt_of_cell? _ _ k0
                      go_simp
                      refine hK.out _ _ hs6 (fun hHeld6 => ?_)
                      clear hK K
                      refine wpAnyH_done (by kernel_rfl) ?_ _
                      clear hHeld hHeld5 hHeld6 k0 kf hs5 hs6 hb5 hcA3 hs3 hs2
                      go_wp2_with fail
                      go_roundg (gk - 1)
                      case measure => have := unhide hi; omega
                      case rel => exact ⟨i + 1, _, _, by have := unhide hi; unfold Hid; omega, by go_num, by unfold Hid; rw [List.length_append, unhide hyl]; rfl, A, O6⟩
                    · go_simp
                      refine (unhide HC2).mono ?_
                      rintro e w3 ⟨v2, rfl, g2⟩
                      obtain ⟨va2, vc2, rfl, _⟩ := g2.1.shape
                      rw [unhide hn2] at g2
                      have b3 : Below wr.heap.size wr w3 := (unhide HG1).2.1.trans (g2.2.1.mono hz2)
                      have hz3 := b3.size
                      have hs3 : Below (w.heap.size + 2) wr w3 := b3.mono (unhide hLQ)
                      have hG3 := (unhide hG).keep b3
                      have q13 := hG3.cells.2.1
                      have HRo3 := hide (show Ro w3 5 fv (NF + i) (flt enF (xs0 ++ ys)) by have := hG3.fo; rw [htl] at this; exact this)
                      have O3 := hide ((unhide hO).push (by rw [unhide hyl]; exact unhide HPF) (unhide hG).qlt (unhide hG).co.lt (unhide hG).fo.lt (unhide HG1) g2 (N := i) (unhide hyl).symm)
                      have hcA3 : (w3.alloc (.cells #[.string ByteArray.empty, .int .i64 (-7), .int .i64 (i : Int), .slice va1 n1 vc1, .slice va2 n2 vc2] 34)).cell? ⟨w.heap.size + 1 + 1, 1, none⟩ = some fv := (World.cell?_of_block (Below.heap_alloc _ _ _ hG3.qlt)).trans q13
                      have HG3 := hide hG3
                      clear g2 b3 hG3
                      rw [unhide hn2]
                      go_simp
                      refine hK.out _ _ hs3 (fun hHeld2 => ?_)
                      clear hK K hHeld2
                      refine wpAnyH_take (i := 17) (oi := _) (v := .agg #[.string ByteArray.empty, .int .i64 (-7), .int .i64 (i : Int), .slice va1 n1 vc1, .slice va2 n2 vc2]) rfl (by kernel_rfl) (by kernel_rfl) (by kernel_rfl) (fun _ _ _ h => h) (Or.inl ⟨by rfl, (by intro w hSw; first | (go_simp; done) | (go_simp; rfl))⟩) hs3 ?_
                      go_simp
                      refine wpAnyH_ready (rs := [1, 18]) (by kernel_rfl) (by simp) ?_
                      refine AllReadyH.cons (o := _) rfl (fun K hK => ?_) (AllReadyH.cons (o := _) rfl (fun K hK => ?_) AllReadyH.nil)
                      · go_simp
                        refine hK.out _ _ hs3 (fun hHeld3 => ?_)
                        clear hK K hHeld3
                        refine wpAnyH_ready (rs := [18]) (by kernel_rfl) (by simp) ?_
                        refine AllReadyH.cons (o := _) rfl (fun K hK => ?_) AllReadyH.nil
                        go_simp
                        have hs4 : Below (w.heap.size + 2) wr (w3.alloc (.cells #[.string ByteArray.empty, .int .i64 (-7), .int .i64 (i : Int), .slice va1 n1 vc1, .slice va2 n2 vc2] 34)) := hs3.alloc (Nat.le_trans (unhide hLQ) hz3) _
                        refine hK.out _ _ hs4 (fun hHeld4 => ?_)
                        clear hK K hHeld4
                        refine wpAnyH_ready (rs := [19]) (by kernel_rfl) (by simp) ?_
                        refine AllReadyH.cons (o := _) rfl (fun K hK => ?_) AllReadyH.nil
                        refine step_appF rfl _ _ rfl fv (xs0 ++ ys) (NF + i) htl rfl ((unhide HRo3).keep (fun g hg => Below.heap_alloc _ _ _ ((unhide HRo3).lt g hg))) ⟨w3.heap.size, 0, none⟩ 1 ⟨ByteArray.empty, -7, (i : Int), .slice va1 n1 vc1, .slice va2 n2 vc2⟩ rfl (by exact new_cells w3 _ 34) rfl rfl (by omega) ?_
                        intro v' w5 hr5 hg5 hat5
                        obtain ⟨va, vcap, rfl, _⟩ := hr5.shape
                        obtain ⟨k0, kf, f5, f6, A⟩ := (unhide HG3).pushF hr5 (by simp [htl]) hg5 (by simpa using hat5)
                        have hs5 : Below (w.heap.size + 2) wr w5 := hs3.trans (f5.below (Nat.le_trans (unhide hLQ) hz3) (unhide HNB))
                        have hs6 := hs3.trans ((unhide f6).below (Nat.le_trans (unhide hLQ) hz3) (unhide HNB2))
                        have O6 := hide ((unhide O3).fr (unhide f6) (by
                          rcases hat5 with e | e
                          · exact .inl e
                          · exact .inr ⟨_, e, by simp⟩))
                        rw [List.append_assoc] at A
                        clear hr5 hg5 hat5 f5 f6
                        refine hK.out _ _ hs5 (fun hHeld5 => ?_)
                        clear hK K
                        go_simp
                        refine wpAnyH_take (i := 20) (oi := _) (v := .pointer (some ⟨w.heap.size + 1 + 1, 1, none⟩)) rfl (by kernel_rfl) (by kernel_rfl) (by kernel_rfl) (fun _ _ _ h => h) (Or.inl ⟨by rfl, (by intro w hSw; go_simp)⟩) (by assumption) ?_
                        go_simp
                        refine wpAnyH_ready (rs := [21]) (by kernel_rfl) (by simp) ?_
                        refine AllReadyH.cons (o := _) rfl (fun K hK => ?_) AllReadyH.nil
                        have hb5 : w.heap.size + 1 + 1 < w5.heap.size := World.block_lt_of_cell? _ _ k0
                        go_simp
                        refine hK.out _ _ hs6 (fun hHeld6 => ?_)
                        clear hK K
                        refine wpAnyH_done (by kernel_rfl) ?_ _
                        clear hHeld hHeld5 hHeld6 k0 kf hs5 hs6 hb5 hcA3 hs3 hs2
                        go_wp2_with fail
                        go_roundg (gk - 1)
                        case measure => have := unhide hi; omega
                        case rel => exact ⟨i + 1, _, _, by have := unhide hi; unfold Hid; omega, by go_num, by unfold Hid; rw [List.length_append, unhide hyl]; rfl, A, O6⟩
                      · go_simp
                        have hs4 : Below (w.heap.size + 2) wr (w3.alloc (.cells #[.string ByteArray.empty, .int .i64 (-7), .int .i64 (i : Int), .slice va1 n1 vc1, .slice va2 n2 vc2] 34)) := hs3.alloc (Nat.le_trans (unhide hLQ) hz3) _
                        refine hK.out _ _ hs4 (fun hHeld4 => ?_)
                        clear hK K hHeld4
                        refine wpAnyH_ready (rs := [1]) (by kernel_rfl) (by simp) ?_
                        refine AllReadyH.cons (o := _) rfl (fun K hK => ?_) AllReadyH.nil
                        go_simp
                        refine hK.out _ _ hs4 (fun hHeld3 => ?_)
                        clear hK K hHeld3
                        refine wpAnyH_ready (rs := [19]) (by kernel_rfl) (by simp) ?_
                        refine AllReadyH.cons (o := _) rfl (fun K hK => ?_) AllReadyH.nil
                        refine step_appF rfl _ _ rfl fv (xs0 ++ ys) (NF + i) htl rfl ((unhide HRo3).keep (fun g hg => Below.heap_alloc _ _ _ ((unhide HRo3).lt g hg))) ⟨w3.heap.size, 0, none⟩ 1 ⟨ByteArray.empty, -7, (i : Int), .slice va1 n1 vc1, .slice va2 n2 vc2⟩ rfl (by exact new_cells w3 _ 34) rfl rfl (by omega) ?_
                        intro v' w5 hr5 hg5 hat5
                        obtain ⟨va, vcap, rfl, _⟩ := hr5.shape
                        obtain ⟨k0, kf, f5, f6, A⟩ := (unhide HG3).pushF hr5 (by simp [htl]) hg5 (by simpa using hat5)
                        have hs5 : Below (w.heap.size + 2) wr w5 := hs3.trans (f5.below (Nat.le_trans (unhide hLQ) hz3) (unhide HNB))
                        have hs6 := hs3.trans ((unhide f6).below (Nat.le_trans (unhide hLQ) hz3) (unhide HNB2))
                        have O6 := hide ((unhide O3).fr (unhide f6) (by
                          rcases hat5 with e | e
                          · exact .inl e
                          · exact .inr ⟨_, e, by simp⟩))
                        rw [List.append_assoc] at A
                        clear hr5 hg5 hat5 f5 f6
                        refine hK.out _ _ hs5 (fun hHeld5 => ?_)
                        clear hK K
                        go_simp
                        refine wpAnyH_take (i := 20) (oi := _) (v := .pointer (some ⟨w.heap.size + 1 + 1, 1, none⟩)) rfl (by kernel_rfl) (by kernel_rfl) (by kernel_rfl) (fun _ _ _ h => h) (Or.inl ⟨by rfl, (by intro w hSw; go_simp)⟩) (by assumption) ?_
                        go_simp
                        refine wpAnyH_ready (rs := [21]) (by kernel_rfl) (by simp) ?_
                        refine AllReadyH.cons (o := _) rfl (fun K hK => ?_) AllReadyH.nil
                        have hb5 : w.heap.size + 1 + 1 < w5.heap.size := World.block_lt_of_cell? _ _ k0
                        go_simp
                        refine hK.out _ _ hs6 (fun hHeld6 => ?_)
                        clear hK K
                        refine wpAnyH_done (by kernel_rfl) ?_ _
                        clear hHeld hHeld5 hHeld6 k0 kf hs5 hs6 hb5 hcA3 hs3 hs2
                        go_wp2_with fail
                        go_roundg (gk - 1)
                        case measure => have := unhide hi; omega
                        case rel => exact ⟨i + 1, _, _, by have := unhide hi; unfold Hid; omega, by go_num, by unfold Hid; rw [List.length_append, unhide hyl]; rfl, A, O6⟩
                · have hiL : NF = i := by have := unhide hi; omega
                  subst hiL
                  have HG0 := hide (show LP w1 (w.heap.size + 2) (w.heap.size + 1 + 1) (p.consts ++ mkC 64) (xs0 ++ (ys ++ mkF NF 0)) cv fv wr by simpa [mkF] using unhide hG)
                  clear hG hi P1 q0 q1 qf hLQ HNB HNB2 hlt
                  go_wp2_with fail
                  go_loopg [9] 64 (fun g t6 wr => ∃ (i : Nat) (fv : Value), Hid (i + g = 64) ∧ t6 = .int .i64 (i : Int) ∧ Hid (LP w1 (w.heap.size + 2) (w.heap.size + 1 + 1) (p.consts ++ mkC 64) (xs0 ++ (ys ++ mkF NF i)) cv fv wr) ∧ Hid (OwnY (w.heap.size + 1 + 1) cv fv p.funcs ys wr))
                  case atStart => exact ⟨0, _, by unfold Hid; omega, rfl, HG0, hO⟩
                  case round =>
                    clear HG0 hO
                    obtain ⟨i, fv, hi, rfl, hG, hO⟩ := hrel
                    obtain ⟨q0, q1, qf⟩ := (unhide hG).cells
                    by_cases hlt : i < 64
                    · have i1 : (i : Int) < 64 := by omega
                      have htl : (xs0 ++ (ys ++ mkF NF i)).length = NF + NF + i := by rw [List.length_append, List.length_append, mkF_length, unhide hX0, unhide hyl]; omega
                      have HRo := hide (show Ro wr 5 fv (NF + NF + i) (flt enF (xs0 ++ (ys ++ mkF NF i))) by have := (unhide hG).fo; rw [htl] at this; exact this)
                      go_wp2_with (first | (at_builtin; refine wpList_appF rfl _ _ rfl fv (xs0 ++ (ys ++ mkF NF i)) (NF + NF + i) htl rfl ((unhide HRo).keep (fun g hg => Below.heap_alloc _ _ _ ((unhide HRo).lt g hg))) ⟨wr.heap.size, 0, none⟩ 1 ⟨ByteArray.empty, -7, (NF : Int) + (i : Int), .slice none 0 0, .slice none 0 0⟩ rfl (new_cells _ _ _) rfl rfl (by omega) ?_))
                      intro v' w5 hr5 hg5 hat5
                      obtain ⟨va, vcap, rfl, _⟩ := hr5.shape
                      obtain ⟨k0, kf, f5, f6, A⟩ := (unhide hG).pushF hr5 (by simp [htl]) hg5 (by simpa using hat5)
                      have O6 := hide ((unhide hO).fr (unhide f6) (by
                        rcases hat5 with e | e
                        · exact .inl e
                        · exact .inr ⟨_, e, by simp⟩))
                      rw [List.append_assoc, List.append_assoc, ← mkF_succ] at A
                      have hb5 : w.heap.size + 1 + 1 < w5.heap.size := World.block_lt_of_cell? _ _ k0
                      clear hr5 hg5 hat5 f5 f6
                      go_wp2_with fail
                      go_roundg (gk - 1)
                      case measure => have := unhide hi; omega
                      case rel => exact ⟨i + 1, _, by have := unhide hi; unfold Hid; omega, by go_num, A, O6⟩
                    · have hi6 : i = 64 := by have := unhide hi; omega
                      subst hi6
                      obtain ⟨fg, fo, fcap, rfl, hfc, _, _, _⟩ := (unhide hG).fo.full (by rw [List.length_append, List.length_append, mkF_length]; omega)
                      have hL2 : (xs0 ++ (ys ++ mkF NF 64)).length = NF + NF + 64 := by rw [List.length_append, List.length_append, mkF_length, unhide hX0, unhide hyl]; omega
                      rw [hL2] at hG hO hfc
                      obtain ⟨cg, co, ccap2, rfl, hcc, _, _, _⟩ := (unhide hG).co.full (by rw [List.length_append, mkC_length]; omega)
                      have hL3 : (p.consts ++ mkC 64).length = NC + 64 := by rw [List.length_append, mkC_length, unhide hNC]
                      rw [hL3] at hG hO hcc
                      have HZL : Hid ((List.zipWith lentF p.funcs ys).length = xs0.length) := by unfold Hid; rw [List.length_zipWith, unhide hX0, unhide hNF, unhide hyl, Nat.min_self]
                      have HG0 := hide (show LP w1 (w.heap.size + 2) (w.heap.size + 1 + 1) (p.consts ++ mkC 64) (lentTo p.funcs xs0 ys 0 ++ (ys ++ mkF NF 64)) (.slice (some ⟨cg, co, none⟩) (NC + 64) ccap2) (.slice (some ⟨fg, fo, none⟩) (NF + NF + 64) fcap) wr by simpa [lentTo] using unhide hG)
                      clear hG hi q0 q1 qf hlt
                      go_wp2_with fail
                      go_loopg [10] NF (fun g t6 wr => ∃ (i : Nat), Hid (i + g = NF) ∧ t6 = .int .i64 (i : Int) ∧ Hid (LP w1 (w.heap.size + 2) (w.heap.size + 1 + 1) (p.consts ++ mkC 64) (lentTo p.funcs xs0 ys i ++ (ys ++ mkF NF 64)) (.slice (some ⟨cg, co, none⟩) (NC + 64) ccap2) (.slice (some ⟨fg, fo, none⟩) (NF + NF + 64) fcap) wr) ∧ Hid (OwnY (w.heap.size + 1 + 1) (.slice (some ⟨cg, co, none⟩) (NC + 64) ccap2) (.slice (some ⟨fg, fo, none⟩) (NF + NF + 64) fcap) p.funcs ys wr))
                      case atStart => exact ⟨0, by unfold Hid; omega, rfl, HG0, hO⟩
                      case round =>
                        clear HG0 hO
                        obtain ⟨i, hi, rfl, hG, hO⟩ := hrel
                        have P0 := Below.heldIn (unhide hG).below (by simp) (unhide HP1).1
                        have P1 := Below.heldIn (unhide hG).below (by simp) (unhide HP1).2.1
                        obtain ⟨q0, q1, qf⟩ := (unhide hG).cells
                        by_cases hlt : i < NF
                        · have hil : i < xs0.length := by rw [unhide hX0]; exact hlt
                          obtain ⟨x, hp⟩ : ∃ x, xs0[i]? = some x := ⟨_, List.getElem?_eq_getElem hil⟩
                          obtain ⟨f, hpf⟩ : ∃ f, p.funcs[i]? = some f := ⟨_, List.getElem?_eq_getElem (by rw [unhide hNF]; exact hlt)⟩
                          obtain ⟨y, hpy⟩ : ∃ y, ys[i]? = some y := ⟨_, List.getElem?_eq_getElem (by rw [unhide hyl]; exact hlt)⟩
                          obtain ⟨b, off, _, e, _, _, hb, hcs⟩ := unhide HXA i x hp
                          cases e
                          obtain ⟨a1, c1, a2, c2, rfl⟩ := (unhide HX3 i f x hpf hp).parts
                          have hBw := (unhide HP1).2.2.trans ((unhide hG).below.mono (by omega))
                          have e3 := Below.heldIn hBw hb (hcs 3 _ rfl)
                          have e4 := Below.heldIn hBw hb (hcs 4 _ rfl)
                          simp only at e3 e4
                          obtain ⟨_, _, _, ry3, ry4⟩ := (unhide hO).rows i f y hpf hpy
                          obtain ⟨yg3, yo3, yc3, ey3, hy3, hm3, _, _⟩ := ry3.full (by omega)
                          obtain ⟨yg4, yo4, yc4, ey4, hy4, hm4, _, _⟩ := ry4.full (by omega)
                          have hy3' : f.code.length ≤ yc3 := by omega
                          have hy4' : f.hs.length ≤ yc4 := by omega
                          have hll := lentTo_len (fs := p.funcs) (ys := ys) (unhide HZL) (Nat.le_of_lt hil)
                          have hxi : (lentTo p.funcs xs0 ys i ++ (ys ++ mkF NF 64))[i]? = some ⟨f.name, f.params, f.locals, .slice a1 f.code.length c1, .slice a2 f.hs.length c2⟩ := by rw [List.getElem?_append_left (by omega)]; exact lentTo_at (unhide HZL) (Nat.le_refl _) hp
                          have hyi : ∀ x', ((lentTo p.funcs xs0 ys i ++ (ys ++ mkF NF 64)).set i x')[NF + i]? = some y := fun x' => by
                            rw [List.getElem?_set_ne (by omega), List.getElem?_append_right (by rw [hll, unhide hX0]; omega), hll, unhide hX0, Nat.add_sub_cancel_left, List.getElem?_append_left (by rw [unhide hyl]; exact hlt)]; exact hpy
                          have hyi0 : (lentTo p.funcs xs0 ys i ++ (ys ++ mkF NF 64))[NF + i]? = some y := by
                            rw [List.getElem?_append_right (by rw [hll, unhide hX0]; omega), hll, unhide hX0, Nat.add_sub_cancel_left, List.getElem?_append_left (by rw [unhide hyl]; exact hlt)]; exact hpy
                          obtain ⟨⟨old3, k03⟩, kf3, f3, A3⟩ := (unhide hG).setF (x' := ⟨f.name, f.params, f.locals, .slice (some ⟨yg3, yo3, none⟩) f.code.length yc3, .slice a2 f.hs.length c2⟩) (u := .slice (some ⟨yg3, yo3, none⟩) f.code.length yc3) rfl hxi (j := 3) (by omega) (fun i hi => by
                            match i, hi with
                            | 0, _ => rfl
                            | 1, _ => rfl
                            | 2, _ => rfl
                            | 3, _ => rfl
                            | 4, _ => rfl)
                          have yq3 := (unhide hG).rowF hyi0 3 _ rfl
                          rw [ey3] at yq3
                          have hFE : ∀ k, k < w.heap.size + 2 → ¬ ((Value.slice (some ⟨fg, fo, none⟩) (NF + NF + 64) fcap).ownBlock = some k ∨ k = w.heap.size + 1 + 1) := fun k hk e => by
                            rcases e with e | e
                            · have := (unhide hG).fb k e; omega
                            · omega
                          have hql := (unhide hG).qlt
                          have hbf : fg < wr.heap.size := World.block_lt_of_cell? _ _ k03
                          have hne3 : (fo + (NF + i) * 5 + 3) ≠ fo + i * 5 + 3 := by omega
                          have b3 := Below.drawn ((unhide f3).below (B := w.heap.size + 2) (by omega) hFE)
                          have A3d := (unhide A3).drawn
                          have HS3 := hide (show Below (w.heap.size + 2) wr (wr.setCell ⟨fg, fo + i * 5 + 3, none⟩ (.slice (some ⟨yg3, yo3, none⟩) f.code.length yc3)).drew ∧ (wr.setCell ⟨fg, fo + i * 5 + 3, none⟩ (.slice (some ⟨yg3, yo3, none⟩) f.code.length yc3)).drew.cell? ⟨w.heap.size + 1 + 1, 1, none⟩ = some (.slice (some ⟨fg, fo, none⟩) (NF + NF + 64) fcap) ∧ (wr.setCell ⟨fg, fo + i * 5 + 3, none⟩ (.slice (some ⟨yg3, yo3, none⟩) f.code.length yc3)).drew.cell? ⟨fg, fo + (NF + i) * 5 + 3, none⟩ = some (.slice (some ⟨yg3, yo3, none⟩) (f.code.length + 64) yc3) from ⟨b3, A3d.cells.2.1, (A3d.rowF (hyi _) 3 _ rfl).trans (by rw [ey3])⟩)
                          have O3 := hide ((unhide hO).fr (unhide f3) (.inl rfl)).drawn
                          have P13 := Below.heldIn b3 (by simp) P1
                          have e43 := Below.heldIn b3 (by simp; omega) e4
                          have i0 : (0 : Int) ≤ (i : Int) := by omega
                          have i1 : (i : Int) < (NF : Int) := by omega
                          have i2 : (NF : Int) + (i : Int) < (NF : Int) + (NF : Int) + 64 := by omega
                          have i3 : (i : Int) < (NF : Int) + (NF : Int) + 64 := by omega
                          have i4 : (0 : Int) ≤ (NF : Int) + (i : Int) := by omega
                          have i6 : IntKind.i64.wrap ((NF : Int) + (i : Int)) = (NF : Int) + (i : Int) := by rw [IntKind.wrap_i64]; omega
                          have i5 : ((NF : Int) + (i : Int)).toNat = NF + i := by omega
                          have hA : ∀ x', ((lentTo p.funcs xs0 ys i ++ (ys ++ mkF NF 64)).set i x')[i]? = some x' := fun x' => List.getElem?_set_self (by rw [List.length_append, hll]; omega)
                          obtain ⟨wa, hwa⟩ : ∃ x, Hid ((wr.setCell ⟨fg, fo + i * 5 + 3, none⟩ (.slice (some ⟨yg3, yo3, none⟩) f.code.length yc3)).drew = x) := ⟨_, rfl⟩
                          have hqa := A3d.qlt
                          have q13 := A3d.cells.2.1
                          have yq4 := A3d.rowF (hyi _) 4 _ rfl
                          rw [ey4] at yq4
                          rw [unhide hwa] at A3d P13 e43 O3 q13 yq4 hqa
                          obtain ⟨⟨old4, k04⟩, kf4, f4, A4'⟩ := A3d.setF (x' := lentF f y) (u := .slice (some ⟨yg4, yo4, none⟩) f.hs.length yc4) rfl (hA _) (j := 4) (by omega) (fun i hi => by
                            unfold lentF enF
                            rw [ey3, ey4]
                            match i, hi with
                            | 0, _ => rfl
                            | 1, _ => rfl
                            | 2, _ => rfl
                            | 3, _ => rfl
                            | 4, _ => rfl)
                          have b4 := Below.drawn ((unhide f4).below (B := w.heap.size + 2) (by omega) hFE)
                          have A4 := hide (unhide A4').drawn
                          rw [List.set_set, List.set_append_left _ _ (by omega), lentTo_set (unhide HZL) hpf hpy hil] at A4
                          have HS4 := hide (show Below (w.heap.size + 2) wa (wa.setCell ⟨fg, fo + i * 5 + 4, none⟩ (.slice (some ⟨yg4, yo4, none⟩) f.hs.length yc4)).drew ∧ (wa.setCell ⟨fg, fo + i * 5 + 4, none⟩ (.slice (some ⟨yg4, yo4, none⟩) f.hs.length yc4)).drew.cell? ⟨w.heap.size + 1 + 1, 1, none⟩ = some (.slice (some ⟨fg, fo, none⟩) (NF + NF + 64) fcap) ∧ (wa.setCell ⟨fg, fo + i * 5 + 4, none⟩ (.slice (some ⟨yg4, yo4, none⟩) f.hs.length yc4)).drew.cell? ⟨fg, fo + (NF + i) * 5 + 4, none⟩ = some (.slice (some ⟨yg4, yo4, none⟩) (f.hs.length + 64) yc4) from ⟨b4, (unhide A4).cells.2.1, (World.cell?_setCell_other _ _ _ _ (fun e => by simp at e <;> omega)).trans yq4⟩)
                          have O4 := hide ((unhide O3).fr (unhide f4) (.inl rfl)).drawn
                          clear hcs hp hBw hpf hpy ry3 ry4 ey3 ey4 hxi hyi hyi0 hA f3 f4 b3 b4 hFE A3 A4' hll
                          go_wp2_with fail
                          refine wp_region_held_drew (S := (fun wx => Below (w.heap.size + 2) wr wx ∧ wx.cell? ⟨w.heap.size + 1 + 1, 1, none⟩ = some (.slice (some ⟨fg, fo, none⟩) (NF + NF + 64) fcap) ∧ wx.cell? ⟨fg, fo + (NF + i) * 5 + 3, none⟩ = some (.slice (some ⟨yg3, yo3, none⟩) (f.code.length + 64) yc3))) (by kernel_rfl) ⟨Below.drawn (Below.refl _ _), q1, yq3⟩ (fun hHeld => ?_)
                          refine wpAnyH_take (i := 0) (oi := _) (v := .pointer (some ⟨w.heap.size + 1 + 1, 1, none⟩)) rfl (by kernel_rfl) (by kernel_rfl) (by kernel_rfl) (fun _ _ _ h => h) (Or.inl ⟨by rfl, (by intro w hSw; go_simp)⟩) (by assumption) ?_
                          refine wpAnyH_take (i := 1) (oi := _) (v := .slice (some ⟨fg, fo, none⟩) (NF + NF + 64) fcap) rfl (by kernel_rfl) (by kernel_rfl) (by kernel_rfl) (fun _ _ _ h => h) (Or.inl ⟨by rfl, (by intro w hSw; obtain ⟨hsB, hsQ, hsY⟩ := hSw; go_simp)⟩) (by assumption) ?_
                          refine wpAnyH_take (i := 2) (oi := _) (v := .int .i64 (i : Int)) rfl (by kernel_rfl) (by kernel_rfl) (by kernel_rfl) (fun _ _ _ h => h) (Or.inl ⟨by rfl, (by intro w hSw; go_simp)⟩) (by assumption) ?_
                          go_simp
                          refine wpAnyH_take (i := 3) (oi := _) (v := .pointer (some ⟨w.heap.size + 1 + 1, 1, none⟩)) rfl (by kernel_rfl) (by kernel_rfl) (by kernel_rfl) (fun _ _ _ h => h) (Or.inl ⟨by rfl, (by intro w hSw; go_simp)⟩) (by assumption) ?_
                          refine wpAnyH_take (i := 4) (oi := _) (v := .slice (some ⟨fg, fo, none⟩) (NF + NF + 64) fcap) rfl (by kernel_rfl) (by kernel_rfl) (by kernel_rfl) (fun _ _ _ h => h) (Or.inl ⟨by rfl, (by intro w hSw; obtain ⟨hsB, hsQ, hsY⟩ := hSw; go_simp)⟩) (by assumption) ?_
                          refine wpAnyH_take (i := 5) (oi := _) (v := .int .i64 (NF : Int)) rfl (by kernel_rfl) (by kernel_rfl) (by kernel_rfl) (fun _ _ _ h => h) (Or.inl ⟨by rfl, (by intro w hSw; go_simp)⟩) (by assumption) ?_
                          go_simp
                          refine wpAnyH_take (i := 6) (oi := _) (v := .int .i64 (i : Int)) rfl (by kernel_rfl) (by kernel_rfl) (by kernel_rfl) (fun _ _ _ h => h) (Or.inl ⟨by rfl, (by intro w hSw; go_simp)⟩) (by assumption) ?_
                          refine wpAnyH_take (i := 7) (oi := _) (v := .int .i64 ((NF : Int) + (i : Int))) rfl (by kernel_rfl) (by kernel_rfl) (by kernel_rfl) (fun _ _ _ h => h) (Or.inl ⟨by rfl, (by intro w hSw; go_simp)⟩) (by assumption) ?_
                          refine wpAnyH_take (i := 8) (oi := _) (v := .pointer (some ⟨fg, fo + (NF + i) * 5, none⟩)) rfl (by kernel_rfl) (by kernel_rfl) (by kernel_rfl) (fun _ _ _ h => h) (Or.inl ⟨by rfl, (by intro w hSw; go_simp)⟩) (by assumption) ?_
                          go_simp
                          refine wpAnyH_take (i := 9) (oi := _) (v := .pointer (some ⟨fg, fo + (NF + i) * 5 + 3, none⟩)) rfl (by kernel_rfl) (by kernel_rfl) (by kernel_rfl) (fun _ _ _ h => h) (Or.inl ⟨by rfl, (by intro w hSw; go_simp)⟩) (by assumption) ?_
                          refine wpAnyH_take (i := 10) (oi := _) (v := .slice (some ⟨yg3, yo3, none⟩) (f.code.length + 64) yc3) rfl (by kernel_rfl) (by kernel_rfl) (by kernel_rfl) (fun _ _ _ h => h) (Or.inl ⟨by rfl, (by intro w hSw; obtain ⟨hsB, hsQ, hsY⟩ := hSw; go_simp)⟩) (by assumption) ?_
                          refine wpAnyH_take (i := 11) (oi := _) (v := .pointer (some ⟨w.heap.size, 1, none⟩)) rfl (by kernel_rfl) (by kernel_rfl) (by kernel_rfl) (fun _ _ _ h => h) (Or.inl ⟨by rfl, (by intro w hSw; go_simp)⟩) (by assumption) ?_
                          go_simp
                          refine wpAnyH_take (i := 12) (oi := _) (v := .slice (some ⟨b, off, none⟩) NF cap) rfl (by kernel_rfl) (by kernel_rfl) (by kernel_rfl) (fun _ _ _ h => h) (Or.inl ⟨by rfl, (by intro w hSw; obtain ⟨hsB, hsQ, hsY⟩ := hSw; have hs0 := Below.heldIn hsB (by simp) P1; go_simp)⟩) (by assumption) ?_
                          refine wpAnyH_take (i := 13) (oi := _) (v := .int .i64 (i : Int)) rfl (by kernel_rfl) (by kernel_rfl) (by kernel_rfl) (fun _ _ _ h => h) (Or.inl ⟨by rfl, (by intro w hSw; go_simp)⟩) (by assumption) ?_
                          refine wpAnyH_take (i := 14) (oi := _) (v := .pointer (some ⟨b, off + i * 5, none⟩)) rfl (by kernel_rfl) (by kernel_rfl) (by kernel_rfl) (fun _ _ _ h => h) (Or.inl ⟨by rfl, (by intro w hSw; go_simp)⟩) (by assumption) ?_
                          go_simp
                          refine wpAnyH_take (i := 15) (oi := _) (v := .pointer (some ⟨b, off + i * 5 + 3, none⟩)) rfl (by kernel_rfl) (by kernel_rfl) (by kernel_rfl) (fun _ _ _ h => h) (Or.inl ⟨by rfl, (by intro w hSw; go_simp)⟩) (by assumption) ?_
                          refine wpAnyH_take (i := 16) (oi := _) (v := .slice a1 f.code.length c1) rfl (by kernel_rfl) (by kernel_rfl) (by kernel_rfl) (fun _ _ _ h => h) (Or.inl ⟨by rfl, (by intro w hSw; obtain ⟨hsB, hsQ, hsY⟩ := hSw; have hs0 := Below.heldIn hsB (by simp; omega) e3; go_simp)⟩) (by assumption) ?_
                          refine wpAnyH_take (i := 17) (oi := _) (v := .int .i64 (f.code.length : Int)) rfl (by kernel_rfl) (by kernel_rfl) (by kernel_rfl) (fun _ _ _ h => h) (Or.inl ⟨by rfl, (by intro w hSw; go_simp)⟩) (by assumption) ?_
                          go_simp
                          refine wpAnyH_take (i := 18) (oi := _) (v := .slice (some ⟨yg3, yo3, none⟩) f.code.length yc3) rfl (by kernel_rfl) (by kernel_rfl) (by kernel_rfl) (fun _ _ _ h => h) (Or.inl ⟨by rfl, (by intro w hSw; go_simp)⟩) (by assumption) ?_
                          refine wpAnyH_take (i := 19) (oi := _) (v := .pointer (some ⟨fg, fo + i * 5, none⟩)) rfl (by kernel_rfl) (by kernel_rfl) (by kernel_rfl) (fun _ _ _ h => h) (Or.inl ⟨by rfl, (by intro w hSw; go_simp)⟩) (by assumption) ?_
                          go_simp
                          refine wpAnyH_take (i := 20) (oi := _) (v := .pointer (some ⟨fg, fo + i * 5 + 3, none⟩)) rfl (by kernel_rfl) (by kernel_rfl) (by kernel_rfl) (fun _ _ _ h => h) (Or.inl ⟨by rfl, (by intro w hSw; go_simp)⟩) (by assumption) ?_
                          go_simp
                          refine wpAnyH_ready (rs := [21]) (by kernel_rfl) (by simp) ?_
                          refine AllReadyH.cons (o := _) rfl (fun K hK => ?_) AllReadyH.nil
                          go_simp
                          refine hK.out _ _ (unhide HS3) (fun hHeld6 => ?_)
                          clear hK K
                          refine wpAnyH_done (by kernel_rfl) ?_ _
                          clear hHeld hHeld6
                          rw [unhide hwa]
                          clear HS3 P0 q0 k03 kf3 q1 yq3 P1 e3 e4 hO O3 hG hwa A3d
                          have q1 := q13
                          have P1 := P13
                          have e4 := e43
                          have hbf4 : fg < wa.heap.size := World.block_lt_of_cell? _ _ k04
                          go_wp2_with fail
                          refine wp_region_held_drew (S := (fun wx => Below (w.heap.size + 2) wa wx ∧ wx.cell? ⟨w.heap.size + 1 + 1, 1, none⟩ = some (.slice (some ⟨fg, fo, none⟩) (NF + NF + 64) fcap) ∧ wx.cell? ⟨fg, fo + (NF + i) * 5 + 4, none⟩ = some (.slice (some ⟨yg4, yo4, none⟩) (f.hs.length + 64) yc4))) (by kernel_rfl) ⟨Below.drawn (Below.refl _ _), q1, yq4⟩ (fun hHeld => ?_)
                          refine wpAnyH_take (i := 0) (oi := _) (v := .pointer (some ⟨w.heap.size + 1 + 1, 1, none⟩)) rfl (by kernel_rfl) (by kernel_rfl) (by kernel_rfl) (fun _ _ _ h => h) (Or.inl ⟨by rfl, (by intro w hSw; go_simp)⟩) (by assumption) ?_
                          refine wpAnyH_take (i := 1) (oi := _) (v := .slice (some ⟨fg, fo, none⟩) (NF + NF + 64) fcap) rfl (by kernel_rfl) (by kernel_rfl) (by kernel_rfl) (fun _ _ _ h => h) (Or.inl ⟨by rfl, (by intro w hSw; obtain ⟨hsB, hsQ, hsY⟩ := hSw; go_simp)⟩) (by assumption) ?_
                          refine wpAnyH_take (i := 2) (oi := _) (v := .int .i64 (i : Int)) rfl (by kernel_rfl) (by kernel_rfl) (by kernel_rfl) (fun _ _ _ h => h) (Or.inl ⟨by rfl, (by intro w hSw; go_simp)⟩) (by assumption) ?_
                          go_simp
                          refine wpAnyH_take (i := 3) (oi := _) (v := .pointer (some ⟨w.heap.size + 1 + 1, 1, none⟩)) rfl (by kernel_rfl) (by kernel_rfl) (by kernel_rfl) (fun _ _ _ h => h) (Or.inl ⟨by rfl, (by intro w hSw; go_simp)⟩) (by assumption) ?_
                          refine wpAnyH_take (i := 4) (oi := _) (v := .slice (some ⟨fg, fo, none⟩) (NF + NF + 64) fcap) rfl (by kernel_rfl) (by kernel_rfl) (by kernel_rfl) (fun _ _ _ h => h) (Or.inl ⟨by rfl, (by intro w hSw; obtain ⟨hsB, hsQ, hsY⟩ := hSw; go_simp)⟩) (by assumption) ?_
                          refine wpAnyH_take (i := 5) (oi := _) (v := .int .i64 (NF : Int)) rfl (by kernel_rfl) (by kernel_rfl) (by kernel_rfl) (fun _ _ _ h => h) (Or.inl ⟨by rfl, (by intro w hSw; go_simp)⟩) (by assumption) ?_
                          go_simp
                          refine wpAnyH_take (i := 6) (oi := _) (v := .int .i64 (i : Int)) rfl (by kernel_rfl) (by kernel_rfl) (by kernel_rfl) (fun _ _ _ h => h) (Or.inl ⟨by rfl, (by intro w hSw; go_simp)⟩) (by assumption) ?_
                          refine wpAnyH_take (i := 7) (oi := _) (v := .int .i64 ((NF : Int) + (i : Int))) rfl (by kernel_rfl) (by kernel_rfl) (by kernel_rfl) (fun _ _ _ h => h) (Or.inl ⟨by rfl, (by intro w hSw; go_simp)⟩) (by assumption) ?_
                          refine wpAnyH_take (i := 8) (oi := _) (v := .pointer (some ⟨fg, fo + (NF + i) * 5, none⟩)) rfl (by kernel_rfl) (by kernel_rfl) (by kernel_rfl) (fun _ _ _ h => h) (Or.inl ⟨by rfl, (by intro w hSw; go_simp)⟩) (by assumption) ?_
                          go_simp
                          refine wpAnyH_take (i := 9) (oi := _) (v := .pointer (some ⟨fg, fo + (NF + i) * 5 + 4, none⟩)) rfl (by kernel_rfl) (by kernel_rfl) (by kernel_rfl) (fun _ _ _ h => h) (Or.inl ⟨by rfl, (by intro w hSw; go_simp)⟩) (by assumption) ?_
                          refine wpAnyH_take (i := 10) (oi := _) (v := .slice (some ⟨yg4, yo4, none⟩) (f.hs.length + 64) yc4) rfl (by kernel_rfl) (by kernel_rfl) (by kernel_rfl) (fun _ _ _ h => h) (Or.inl ⟨by rfl, (by intro w hSw; obtain ⟨hsB, hsQ, hsY⟩ := hSw; go_simp)⟩) (by assumption) ?_
                          refine wpAnyH_take (i := 11) (oi := _) (v := .pointer (some ⟨w.heap.size, 1, none⟩)) rfl (by kernel_rfl) (by kernel_rfl) (by kernel_rfl) (fun _ _ _ h => h) (Or.inl ⟨by rfl, (by intro w hSw; go_simp)⟩) (by assumption) ?_
                          go_simp
                          refine wpAnyH_take (i := 12) (oi := _) (v := .slice (some ⟨b, off, none⟩) NF cap) rfl (by kernel_rfl) (by kernel_rfl) (by kernel_rfl) (fun _ _ _ h => h) (Or.inl ⟨by rfl, (by intro w hSw; obtain ⟨hsB, hsQ, hsY⟩ := hSw; have hs0 := Below.heldIn hsB (by simp) P1; go_simp)⟩) (by assumption) ?_
                          refine wpAnyH_take (i := 13) (oi := _) (v := .int .i64 (i : Int)) rfl (by kernel_rfl) (by kernel_rfl) (by kernel_rfl) (fun _ _ _ h => h) (Or.inl ⟨by rfl, (by intro w hSw; go_simp)⟩) (by assumption) ?_
                          refine wpAnyH_take (i := 14) (oi := _) (v := .pointer (some ⟨b, off + i * 5, none⟩)) rfl (by kernel_rfl) (by kernel_rfl) (by kernel_rfl) (fun _ _ _ h => h) (Or.inl ⟨by rfl, (by intro w hSw; go_simp)⟩) (by assumption) ?_
                          go_simp
                          refine wpAnyH_take (i := 15) (oi := _) (v := .pointer (some ⟨b, off + i * 5 + 4, none⟩)) rfl (by kernel_rfl) (by kernel_rfl) (by kernel_rfl) (fun _ _ _ h => h) (Or.inl ⟨by rfl, (by intro w hSw; go_simp)⟩) (by assumption) ?_
                          refine wpAnyH_take (i := 16) (oi := _) (v := .slice a2 f.hs.length c2) rfl (by kernel_rfl) (by kernel_rfl) (by kernel_rfl) (fun _ _ _ h => h) (Or.inl ⟨by rfl, (by intro w hSw; obtain ⟨hsB, hsQ, hsY⟩ := hSw; have hs0 := Below.heldIn hsB (by simp; omega) e4; go_simp)⟩) (by assumption) ?_
                          refine wpAnyH_take (i := 17) (oi := _) (v := .int .i64 (f.hs.length : Int)) rfl (by kernel_rfl) (by kernel_rfl) (by kernel_rfl) (fun _ _ _ h => h) (Or.inl ⟨by rfl, (by intro w hSw; go_simp)⟩) (by assumption) ?_
                          go_simp
                          refine wpAnyH_take (i := 18) (oi := _) (v := .slice (some ⟨yg4, yo4, none⟩) f.hs.length yc4) rfl (by kernel_rfl) (by kernel_rfl) (by kernel_rfl) (fun _ _ _ h => h) (Or.inl ⟨by rfl, (by intro w hSw; go_simp)⟩) (by assumption) ?_
                          refine wpAnyH_take (i := 19) (oi := _) (v := .pointer (some ⟨fg, fo + i * 5, none⟩)) rfl (by kernel_rfl) (by kernel_rfl) (by kernel_rfl) (fun _ _ _ h => h) (Or.inl ⟨by rfl, (by intro w hSw; go_simp)⟩) (by assumption) ?_
                          go_simp
                          refine wpAnyH_take (i := 20) (oi := _) (v := .pointer (some ⟨fg, fo + i * 5 + 4, none⟩)) rfl (by kernel_rfl) (by kernel_rfl) (by kernel_rfl) (fun _ _ _ h => h) (Or.inl ⟨by rfl, (by intro w hSw; go_simp)⟩) (by assumption) ?_
                          go_simp
                          refine wpAnyH_ready (rs := [21]) (by kernel_rfl) (by simp) ?_
                          refine AllReadyH.cons (o := _) rfl (fun K hK => ?_) AllReadyH.nil
                          go_simp
                          refine hK.out _ _ (unhide HS4) (fun hHeld6 => ?_)
                          clear hK K
                          refine wpAnyH_done (by kernel_rfl) ?_ _
                          clear hHeld hHeld6
                          go_wp2_with fail
                          go_roundg (gk - 1)
                          case measure => have := unhide hi; omega
                          case rel => exact ⟨i + 1, by have := unhide hi; unfold Hid; omega, by go_num, A4, O4⟩
                        · have hiL : NF = i := by have := unhide hi; omega
                          subst hiL
                          have hcc' : NC ≤ ccap2 := by omega
                          have hfc' : NF ≤ fcap := by omega
                          have hbr := (unhide hG).below.block (w.heap.size + 1) (by omega) |>.trans (unhide HR1)
                          have r0 : wr.cell? ⟨w.heap.size + 1, 0, none⟩ = some (.slice none 0 0) := by simp [World.cell?, hbr]
                          have r1 : wr.cell? ⟨w.heap.size + 1, 1, none⟩ = some (.slice none 0 0) := by simp [World.cell?, hbr]
                          have rf : ∀ o, wr.frozen? ⟨w.heap.size + 1, o, none⟩ = false := fun o => by simp [World.frozen?, hbr]
                          have rf0 := rf 0
                          have rf1 := rf 1
                          have qf0 := qf 0
                          have qf1 := qf 1
                          have hql := (unhide hG).qlt
                          have hrl : w.heap.size + 1 < wr.heap.size := by omega
                          go_wp2_with fail
                          refine bodyPost_ret (v := .agg #[.slice (some ⟨cg, co, none⟩) NC ccap2, .slice (some ⟨fg, fo, none⟩) NF fcap]) ?_ rfl ?_
                          · rw [results_cell_oneL rfl]
                            go_simp
                          · rw [unhide hNF]
                            refine ⟨cg, co, ccap2, fg, fo, fcap, ys, rfl, lnt_of (unhide hG) (unhide hO) (unhide HP1).2.2 ?_ (unhide hNC) (unhide hNF) (unhide hX0) (unhide hyl)⟩
                            exact ((((Fr.refl _ wr).setCell _ (.inr (.inr rfl)) _).setCell _ (.inr (.inr rfl)) _).setCell _ (.inr (.inl rfl)) _).setCell _ (.inr (.inl rfl)) _
end Go.Proofs.Ytnefmfnchimppaa
