/-
  guess, of the statements.
-/
import Derived.Test.YtbphddocgdihjaaDoorVGue0
namespace Go.Proofs.YtbphddocgdihjaaDoor
open Go.RowKit
set_option linter.unusedVariables false
set_option linter.unusedSimpArgs false
abbrev fvC (x : Fv) : List Value := [.string x.name, .int .i64 x.params, .int .i64 x.locals, x.cv, x.hv]
/-- The search in memory: the function's box, the list, the places. -/
structure Gm (w : World) (x : Fv) (N g go gc : Nat) (l left : List Int) (tv : Value) (wr : World) : Prop where
  bel : Below w.heap.size w wr
  box : ∀ j z, (fvC x)[j]? = some z → wr.cell? ⟨w.heap.size, j, none⟩ = some z
  rl : Ro wr 1 (.slice (some ⟨g, go, none⟩) N gc) N (flt enN l)
  rt : Ro wr 1 tv left.length (flt enN left)
  gl : w.heap.size < g
  tl : ∀ k, tv.ownBlock = some k → w.heap.size < k ∧ k ≠ g
theorem Gm.bl {w : World} {x : Fv} {N g go gc : Nat} {l left : List Int} {tv : Value} {wr : World} (h : Gm w x N g go gc l left tv wr) : w.heap.size < wr.heap.size := World.block_lt_of_cell? _ _ (h.box 0 _ rfl)
theorem Gm.fr {S : Nat → Prop} {w : World} {x : Fv} {N g go gc : Nat} {l left : List Int} {tv : Value} {wr w' : World} (h : Gm w x N g go gc l left tv wr) (f : Fr S wr w') (hS : ∀ k, k < wr.heap.size → ¬ S k) : Gm w x N g go gc l left tv w' :=
  ⟨h.bel.trans (f.below h.bel.size (fun k hk => hS k (Nat.lt_of_lt_of_le hk h.bel.size))), fun j z hz => (f.cell (a := ⟨w.heap.size, j, none⟩) h.bl (hS _ h.bl)).trans (h.box j z hz), h.rl.fr f (fun k hk => hS k (h.rl.lt k hk)), h.rt.fr f (fun k hk => hS k (h.rt.lt k hk)), h.gl, h.tl⟩
theorem Gm.keep {w : World} {x : Fv} {N g go gc : Nat} {l left : List Int} {tv : Value} {wr w' : World} (h : Gm w x N g go gc l left tv wr) (f : Below wr.heap.size wr w') : Gm w x N g go gc l left tv w' := h.fr (S := fun _ => False) (Fr.of_below f) (fun _ _ e => e)
theorem Gm.put {w : World} {x : Fv} {N g go gc : Nat} {l left : List Int} {tv : Value} {wr : World} (h : Gm w x N g go gc l left tv wr) {i : Nat} (hi : i < N) (v : Int) : Gm w x N g go gc (l.set i v) left tv (wr.setCell ⟨g, go + i, none⟩ (.int .i64 v)) := by
  have f : Fr (fun k => k = g) wr (wr.setCell ⟨g, go + i, none⟩ (.int .i64 v)) := (Fr.refl (fun k => k = g) wr).setCell ⟨g, go + i, none⟩ (.inr rfl) _
  have gl := h.gl
  exact ⟨h.bel.trans (f.below h.bel.size (fun k hk e => by omega)), fun j z hz => (f.cell (a := ⟨w.heap.size, j, none⟩) h.bl (by show ¬ w.heap.size = g; omega)).trans (h.box j z hz), h.rl.putN hi v, h.rt.fr f (fun k hk => (h.tl k hk).2), h.gl, h.tl⟩
theorem Gm.push {w : World} {x : Fv} {N g go gc : Nat} {l left : List Int} {tv tv' : Value} {wr w' : World} {X : Obj} {q : Int} {m : Nat} (h : Gm w x N g go gc l left tv wr) (hr : Ro w' 1 tv' m (flt enN left ++ enN q)) (hm : m = left.length + 1) (hg : (wr.alloc X).grownBy w' tv.ownBlock) (hat : tv'.ownBlock = tv.ownBlock ∨ tv'.ownBlock = some (wr.alloc X).heap.size) : Gm w x N g go gc l (left ++ [q]) tv' w' := by
  subst hm
  have f : Fr (fun k => tv.ownBlock = some k) wr w' := ((Fr.refl _ wr).alloc X).grown hg (fun k e => .inr e)
  have gl := h.gl
  have bl := h.bl
  have gr := h.rl.lt g rfl
  refine ⟨h.bel.trans (f.below h.bel.size (fun k hk e => by have := h.tl k e; omega)), fun j z hz => (f.cell (a := ⟨w.heap.size, j, none⟩) h.bl (fun e => by have := (h.tl _ e).1; simp at this)).trans (h.box j z hz), h.rl.fr f (fun k hk e => by cases hk; exact (h.tl _ e).2 rfl), by rw [List.length_append, flt_append, flt_one]; exact hr, h.gl, fun k hk => ?_⟩
  rcases hat with q | q
  · exact h.tl k (q ▸ hk)
  · rw [q] at hk; cases hk; simp; omega
/-- With the row of what comes next. -/
structure Gh (w : World) (x : Fv) (N g go gc : Nat) (ys : List Int) (av : Value) (l left : List Int) (tv : Value) (wr : World) : Prop where
  m : Gm w x N g go gc l left tv wr
  ra : Ro wr 1 av ys.length (flt enN ys)
  al : ∀ k, av.ownBlock = some k → k ≠ g ∧ tv.ownBlock ≠ some k
theorem Gh.fr {S : Nat → Prop} {w : World} {x : Fv} {N g go gc : Nat} {ys : List Int} {av : Value} {l left : List Int} {tv : Value} {wr w' : World} (h : Gh w x N g go gc ys av l left tv wr) (f : Fr S wr w') (hS : ∀ k, k < wr.heap.size → ¬ S k) : Gh w x N g go gc ys av l left tv w' :=
  ⟨h.m.fr f hS, h.ra.fr f (fun k hk => hS k (h.ra.lt k hk)), h.al⟩
theorem Gh.put {w : World} {x : Fv} {N g go gc : Nat} {ys : List Int} {av : Value} {l left : List Int} {tv : Value} {wr : World} (h : Gh w x N g go gc ys av l left tv wr) {i : Nat} (hi : i < N) (v : Int) : Gh w x N g go gc ys av (l.set i v) left tv (wr.setCell ⟨g, go + i, none⟩ (.int .i64 v)).drew := by
  have f : Fr (fun k => k = g) wr (wr.setCell ⟨g, go + i, none⟩ (.int .i64 v)).drew := ((Fr.refl (fun k => k = g) wr).setCell ⟨g, go + i, none⟩ (.inr rfl) _).drew
  exact ⟨(h.m.put hi v).fr (S := fun _ => False) (Fr.refl _ _).drew (fun _ _ e => e), h.ra.fr f (fun k hk => (h.al k hk).1), h.al⟩
theorem Gh.push {w : World} {x : Fv} {N g go gc : Nat} {ys : List Int} {av : Value} {l left : List Int} {tv tv' : Value} {wr w' : World} {X : Obj} {q : Int} {m : Nat} (h : Gh w x N g go gc ys av l left tv wr) (hr : Ro w' 1 tv' m (flt enN left ++ enN q)) (hm : m = left.length + 1) (hg : (wr.alloc X).grownBy w' tv.ownBlock) (hat : tv'.ownBlock = tv.ownBlock ∨ tv'.ownBlock = some (wr.alloc X).heap.size) : Gh w x N g go gc ys av l (left ++ [q]) tv' w' := by
  have f : Fr (fun k => tv.ownBlock = some k) wr w' := ((Fr.refl _ wr).alloc X).grown hg (fun k e => .inr e)
  refine ⟨h.m.push hr hm hg hat, h.ra.fr f (fun k hk => (h.al k hk).2), fun k hk => ⟨(h.al k hk).1, fun e => ?_⟩⟩
  rcases hat with q | q
  · exact (h.al k hk).2 (q ▸ e)
  · rw [q] at e; cases e; have := h.ra.lt _ hk; rw [World.size_alloc] at this; omega
theorem ro_one (w : World) (k : Int) : Ro (w.alloc (.cells #[.int .i64 k] 3)) 1 (.slice (some ⟨w.heap.size, 0, none⟩) 1 1) 1 (flt enN [k]) :=
  ⟨rfl, .inr ⟨w.heap.size, 0, 1, #[.int .i64 k], 3, rfl, heap_alloc_new _ _, by omega, by unfold maxLen; omega, by simp, fun j hj => by simp [flt, enN]⟩⟩
/-- The first place. -/
theorem Gs.first {f : Fc} (hf : OkF f) : Gs f ((List.replicate f.code.length (-1)).set 0 0) [0] := by
  have n1 := hf.n1
  have at0 : ((List.replicate f.code.length (-1 : Int)).set 0 0)[0]? = some 0 := by rw [List.getElem?_set_self (by simp; omega)]
  refine ⟨by simp, fun y hy => ?_, by simp, fun p hp => ?_, fun p h e h0 => ?_, by simp⟩
  · rcases List.mem_or_eq_of_mem_set hy with hy | hy
    · have := List.eq_of_mem_replicate hy
      simp; omega
    · subst hy; simp
  · simp at hp
    exact ⟨0, by rw [hp]; rfl, 0, .zero at0⟩
  · by_cases c : p = 0
    · subst c; simp
    · rw [List.getElem?_set_ne (by omega), List.getElem?_replicate] at e
      split at e
      · cases e; omega
      · cases e

/-- What is answered. -/
def GuP (f : Fc) (w : World) (e : Ending) (w' : World) : Prop := ∃ v l, e = .returned v ∧ Ro w' 1 v l.length (flt enN l) ∧ GuR f l ∧ Below w.heap.size w w'
set_option maxRecDepth 100000 in
set_option maxHeartbeats 12800000 in
theorem guess_any {w : World} {f : Fc} {x : Fv} (hx : FnV w f x) (hf : OkF f) :
    Calls Tryd.prog 10 #[.agg #[.string x.name, .int .i64 x.params, .int .i64 x.locals, x.cv, x.hv]] w fun e w' => GuP f w e w' := by
  have HX := hide hx
  have HOF := hide hf
  obtain ⟨N, hNN⟩ : ∃ N, Hid (f.code.length = N) := ⟨_, rfl⟩
  obtain ⟨H, hHH⟩ : ∃ N, Hid (f.hs.length = N) := ⟨_, rfl⟩
  have hN1 : 1 ≤ N := by rw [← unhide hNN]; exact hf.n1
  have hN2 : N ≤ 2000 := by rw [← unhide hNN]; exact hf.nm
  have hH2 : H ≤ 1000 := by rw [← unhide hHH]; exact hf.hm
  obtain ⟨_, ca, cc, ecv, _, _, _⟩ := hx.2.2.2.1
  obtain ⟨_, ha2, hc2, ehv, _, _, _⟩ := hx.2.2.2.2
  rw [unhide hNN] at ecv
  rw [unhide hHH] at ehv
  obtain ⟨X1, eX1⟩ : ∃ X1, X1 = w.alloc (.cells #[.string x.name, .int .i64 x.params, .int .i64 x.locals, x.cv, x.hv] 40) := ⟨_, rfl⟩
  have b1 : Below w.heap.size w X1 := by rw [eX1]; exact (Below.refl _ w).alloc (Nat.le_refl _) _
  have nb := fun j z (hz : #[Value.string x.name, .int .i64 x.params, .int .i64 x.locals, x.cv, x.hv].toList[j]? = some z) => new_cells w #[.string x.name, .int .i64 x.params, .int .i64 x.locals, x.cv, x.hv] 40 j z hz
  have HBX : Hid (∀ j z, (fvC x)[j]? = some z → X1.cell? ⟨w.heap.size, j, none⟩ = some z) := fun j z hz => by
    have := nb j z hz; rw [Go.WideShapes.add_plain, Nat.zero_add] at this; rw [eX1]; exact this
  have lx : w.heap.size < X1.heap.size := by rw [eX1]; simp
  have sx : Hid (X1.heap.size = w.heap.size + 1) := by unfold Hid; rw [eX1]; simp
  obtain ⟨nm, pr, lcl, cv', hv'⟩ := x
  simp only at ecv ehv eX1
  subst ecv ehv
  have HB1 := hide b1
  clear hx nb b1 hf
  go_enter Tryd.func10, Tryd.ntmps10
  go_wp2_with fail
  rw [← eX1]
  clear eX1
  go_loopg [3, 4] N (fun gg t3 t4 wi => ∃ (i : Nat), Hid (i + gg = N) ∧ t4 = .int .i64 (i : Int) ∧ Hid (Gn X1 (List.replicate i (-1)) t3 wi))
  case atStart => exact ⟨0, by unfold Hid; omega, rfl, ⟨Ro.nil _ _, Below.refl _ _, fun k hk => by simp [Value.ownBlock] at hk⟩⟩
  case round =>
    obtain ⟨i, hi, rfl, hG⟩ := hrel
    have i0 : (0 : Int) ≤ (i : Int) := by omega
    have d3 := (unhide hG).2.1.cell (p := ⟨w.heap.size, 3, none⟩) lx |>.trans (unhide HBX 3 _ rfl)
    have ld := World.block_lt_of_cell? _ _ d3
    obtain ⟨va, vc, ev, _, _⟩ := (unhide hG).1.shape
    have hrl : (List.replicate i (-1 : Int)).length = i := List.length_replicate
    rw [hrl] at ev
    subst ev
    by_cases hlt : i < N
    · have i1 : (i : Int) < (N : Int) := by omega
      go_wp2_with (first | (at_builtin; refine wpList_appN rfl _ _ rfl (.slice va i vc) (List.replicate i (-1)) rfl ((unhide hG).1.keep (fun g hg => Below.heap_alloc _ _ _ ((unhide hG).1.lt g hg))) ⟨wr.heap.size, 0, none⟩ 1 (-1) rfl (new_cells wr #[.int .i64 (-1)] 3) (by rw [hrl]; omega) ?_; intro v6 w6 hr6 hg6 hat6; have G2 := hide ((unhide hG).push (p := (-1 : Int)) hr6 rfl hg6 hat6); clear hr6 hg6 hat6))
      go_roundg (gk - 1)
      case measure => have := unhide hi; omega
      case rel => exact ⟨i + 1, by have := unhide hi; unfold Hid; omega, by go_num, by rw [List.replicate_succ']; exact G2⟩
    · have i1 : ¬ (i : Int) < (N : Int) := by omega
      have hiN : N = i := by have := unhide hi; omega
      subst hiN
      obtain ⟨g, go, gc, eg, _, _, lg, hcl⟩ := (unhide hG).1.full (by rw [hrl]; exact hN1)
      rw [hrl] at eg
      cases eg
      have gge : X1.heap.size ≤ g := (unhide hG).2.2 g rfl
      have kz := hcl 0 (by rw [hrl]; omega)
      rw [Nat.add_zero, flt_map, List.getElem?_map, List.getElem?_replicate, if_pos (by omega)] at kz
      simp only [Option.map_some] at kz
      have kfz : wr.frozen? ⟨g, go, none⟩ = false := (unhide hG).1.free (by rw [hrl]) _
      have e0 : (((N : Nat) : Int) == 0) = false := by simp; omega
      have e1 : (0 : Int) < (N : Int) := by omega
      obtain ⟨Wa, eWa⟩ : ∃ Wa, Wa = wr.setCell ⟨g, go, none⟩ (.int .i64 0) := ⟨_, rfl⟩
      obtain ⟨Wb, eWb⟩ : ∃ Wb, Wb = Wa.alloc (.cells #[.int .i64 0] 3) := ⟨_, rfl⟩
      have HGm : Hid (Gm w ⟨nm, pr, lcl, .slice ca N cc, .slice ha2 H hc2⟩ N g go vc ((List.replicate N (-1)).set 0 0) [0] (.slice (some ⟨wr.heap.size, 0, none⟩) 1 1) Wb) := by
        have hro := (unhide hG).1
        rw [hrl] at hro
        have fa : Fr (fun k => k = g) wr Wa := by rw [eWa]; exact (Fr.refl (fun k => k = g) wr).setCell ⟨g, go, none⟩ (.inr rfl) _
        have fb : Fr (fun k => k = g) wr Wb := by rw [eWb]; exact fa.alloc _
        have hsx := unhide sx
        have hbl : Below w.heap.size w wr := (unhide HB1).trans ((unhide hG).2.1.mono (unhide HB1).size)
        have sz : Wa.heap.size = wr.heap.size := by rw [eWa]; simp
        refine ⟨hbl.trans (fb.below hbl.size (fun k hk e => by omega)), fun j z hz => (fb.cell (a := ⟨w.heap.size, j, none⟩) ld (by show ¬ w.heap.size = g; omega)).trans (((unhide hG).2.1.cell (p := ⟨w.heap.size, j, none⟩) lx).trans (unhide HBX j z hz)), ?_, by rw [eWb, ← sz]; exact ro_one Wa 0, by omega, fun k hk => ?_⟩
        · have := hro.putN (i := 0) (by omega) 0
          rw [Nat.add_zero, ← eWa] at this
          rw [eWb]
          exact this.keep (fun k hk => Below.heap_alloc _ _ _ (this.lt k hk))
        · cases hk; exact ⟨by show w.heap.size < wr.heap.size; omega, by show wr.heap.size ≠ g; omega⟩
      have HGs : Hid (Gs f ((List.replicate N (-1)).set 0 0) [0]) := by rw [← unhide hNN]; exact Gs.first (unhide HOF)
      go_wp2_with fail
      rw [← eWa, ← eWb]
      clear eWa eWb kz kfz hcl e0 i1 hlt hi i0 d3 ld hrl
      obtain ⟨l0, el0⟩ : ∃ l0, l0 = (List.replicate N (-1 : Int)).set 0 0 := ⟨_, rfl⟩
      rw [← el0] at HGm HGs
      clear el0
      clear hG HBX HB1 sx lx gge lg
      obtain ⟨tv0, etv⟩ : ∃ tv0, tv0 = Value.slice (some ⟨wr.heap.size, 0, none⟩) 1 1 := ⟨_, rfl⟩
      rw [← etv] at HGm ⊢
      clear etv
      go_loopg [5, 6] N (fun gg t5 t6 wi => ∃ (i : Nat) (l left : List Int), Hid (i + gg = N) ∧ t6 = .int .i64 (i : Int) ∧ Hid (Gs f l left) ∧ Hid (∀ j q, j < i → left[j]? = some q → Cl f l q.toNat) ∧ Hid (Gm w ⟨nm, pr, lcl, .slice ca N cc, .slice ha2 H hc2⟩ N g go vc l left t5 wi))
      case atStart => exact ⟨0, l0, [0], by unfold Hid; omega, rfl, HGs, fun j q hj => by omega, HGm⟩
      case round =>
        obtain ⟨i, l, left, hi, rfl, hGs, hCl, hGm⟩ := hrel
        clear HGm HGs
        have i0 : (0 : Int) ≤ (i : Int) := by omega
        have hle := (unhide hGs).le
        obtain ⟨n, hn⟩ : ∃ n, Hid (left.length = n) := ⟨_, rfl⟩
        obtain ⟨ta, tc, etv, _, _⟩ := (unhide hGm).rt.shape
        rw [unhide hn] at etv
        rw [unhide hn, unhide hNN] at hle
        subst etv
        by_cases hlt : i < n
        · have i1 : (i : Int) < (n : Int) := by omega
          obtain ⟨q, hq⟩ : ∃ q, left[i]? = some q := ⟨_, List.getElem?_eq_getElem (by rw [unhide hn]; exact hlt)⟩
          obtain ⟨p, rfl, h, hwy⟩ := (unhide hGs).rg q (List.mem_of_getElem? hq)
          have hlp := hwy.at
          have hpN : p < N := by rw [← unhide hNN, ← (unhide hGs).len]; exact (List.getElem?_eq_some_iff.1 hlp.1).1
          have p0 : (0 : Int) ≤ (p : Int) := by omega
          have p1 : (p : Int) < (N : Int) := by omega
          obtain ⟨⟨op, a⟩, hci⟩ : ∃ q, f.code[p]? = some q := ⟨_, List.getElem?_eq_getElem (by rw [unhide hNN]; exact hpN)⟩
          obtain ⟨hokb, hjmp⟩ := (unhide HOF).ins p op a hci
          have hnr : ∀ y ∈ nxl f.code.length op a p, 0 ≤ y ∧ y < (f.code.length : Int) := fun y hy => by
            unfold nxl at hy
            rw [List.mem_append] at hy
            rcases hy with hy | hy
            · split at hy
              · rename_i hj
                simp at hy; subst hy; exact hjmp hj
              · simp at hy
            · split at hy
              · rename_i hc
                simp at hy; subst hy; have := hc.2; omega
              · simp at hy
          obtain ⟨T, hT⟩ : ∃ T, Hid (tkI op a = T) := ⟨_, rfl⟩
          obtain ⟨U, hU⟩ : ∃ U, Hid (ptI op a = U) := ⟨_, rfl⟩
          have hTB : 0 ≤ T ∧ T ≤ 66 ∧ 0 ≤ U ∧ U ≤ 2 := by rw [← unhide hT, ← unhide hU]; exact tp_bounds' hokb
          have hhb := (unhide hGs).bd h (List.mem_of_getElem? hlp.1)
          rw [unhide hn] at hhb
          obtain ⟨kp, hKP⟩ : ∃ kp, Hid (h - T = kp) := ⟨_, rfl⟩
          obtain ⟨bh, hBH⟩ : ∃ bh, Hid (h - T + U = bh) := ⟨_, rfl⟩
          have hkb : Hid (kp = h - T ∧ bh = kp + U) := by have := unhide hKP; have := unhide hBH; unfold Hid; omega
          have hw1 : IntKind.i64.wrap (h - T) = kp := by have := unhide hkb; rw [IntKind.wrap_i64]; omega
          have hw2 : IntKind.i64.wrap (kp + U) = bh := by have := unhide hkb; rw [IntKind.wrap_i64]; omega
          have hbhb : -66 ≤ bh ∧ bh ≤ 102 + 2 * (n : Int) := by have := unhide hkb; omega
          have HEF : Hid (∀ w, Calls Tryd.prog 21 #[.agg #[.int .i64 op, .int .i64 a]] w fun e w' => e = .returned (.tuple #[.int .i64 T, .int .i64 U, .bool true]) ∧ Below w.heap.size w w') := fun w => by
            have := effect_any w op a
            rw [unhide hT, unhide hU, hokb] at this
            exact this
          obtain ⟨cb, co, cc', ecv, _, _, lc, hc⟩ := Rx.elem zI (unhide HX).2.2.2.1 hci
          simp only at ecv
          rw [unhide hNN] at ecv
          cases ecv
          have k0 := ((unhide hGm).bel.cell (p := ⟨cb, co + p * 2 + 0, none⟩) lc).trans (hc 0 _ rfl)
          have k1 := ((unhide hGm).bel.cell (p := ⟨cb, co + p * 2 + 1, none⟩) lc).trans (hc 1 _ rfl)
          rw [Nat.add_zero] at k0
          have lcw := World.block_lt_of_cell? _ _ k0
          have d3 := (unhide hGm).box 3 _ rfl
          have ld := World.block_lt_of_cell? _ _ d3
          obtain ⟨tb, to, tc', etv, ltb, kt⟩ := (show Rn wr _ left from Rx.of_ro (by rw [unhide hn]; have := (unhide hGm).rt; rw [unhide hn] at this; exact this)).at hq
          rw [unhide hn] at etv
          cases etv
          have HQ := hide hq
          have HWY := hide hwy
          have HCI := hide hci
          have HNR := hide hnr
          have HHB := hide hhb
          have HBH := hide hbhb
          have HLP := hide hlp
          clear hq hwy hci hokb hjmp hnr hc lc hhb hbhb hlp
          obtain ⟨G, hG⟩ : ∃ G, Hid (gk = G) := ⟨_, rfl⟩
          rw [unhide hG] at hi
          go_wp2_with fail
          refine (unhide HEF _).mono ?_
          rintro e W5 ⟨rfl, hb5⟩
          have HM5 := hide ((unhide hGm).keep hb5)
          have d0 := (unhide HM5).box 0 _ rfl
          have d1 := (unhide HM5).box 1 _ rfl
          have d2 := (unhide HM5).box 2 _ rfl
          have d3 := (unhide HM5).box 3 _ rfl
          have d4 := (unhide HM5).box 4 _ rfl
          have ld := World.block_lt_of_cell? _ _ d3
          have HC := hide (next_any ((unhide HX).below (unhide HM5).bel (Nat.le_refl _)) (unhide HCI) (by rw [unhide hNN]; exact hN2))
          obtain ⟨ys, hys⟩ : ∃ ys, Hid (nxl f.code.length op a p = ys) := ⟨_, rfl⟩
          rw [unhide hys] at HC
          clear hb5 HEF k0 k1 lcw kt
          go_wp2_with fail
          refine (unhide HC).mono ?_
          rintro e W6 ⟨av, rfl, hG6⟩
          have HH6 : Hid (Gh w ⟨nm, pr, lcl, .slice (some ⟨cb, co, none⟩) N cc, .slice ha2 H hc2⟩ N g go vc ys av l left (.slice (some ⟨tb, to, none⟩) n tc) W6) := by
            refine ⟨(unhide HM5).keep hG6.2.1, hG6.1, fun k hk => ?_⟩
            have h1 := hG6.2.2 k hk
            have h2 := (unhide HM5).rl.lt g rfl
            exact ⟨by omega, fun e => by have := (unhide HM5).rt.lt k e; omega⟩
          have hyl : ys.length ≤ 2 := by rw [← unhide hys]; exact nxl_len _ _ _ _
          obtain ⟨aa, ac, eav, _, _⟩ := hG6.1.shape
          obtain ⟨L, hL⟩ : ∃ L, Hid (ys.length = L) := ⟨_, rfl⟩
          rw [unhide hL] at eav hyl
          subst eav
          clear hG6 HC d0 d1 d2 d3 d4 ld HM5
          go_wp2_with fail
          go_loopg [5, 12] L (fun gg t5 t12 wi => ∃ (k : Nat) (l2 lf2 : List Int), Hid (k + gg = L) ∧ t12 = .int .i64 (k : Int) ∧ Hid (Gs f l2 lf2) ∧ Hid (∀ (q : Nat) z, l[q]? = some z → 0 ≤ z → l2[q]? = some z) ∧ Hid (∃ more, lf2 = left ++ more) ∧ Hid (Cl1 f l2 p (ys.take k)) ∧ Hid (Gh w ⟨nm, pr, lcl, .slice (some ⟨cb, co, none⟩) N cc, .slice ha2 H hc2⟩ N g go vc ys (.slice aa L ac) l2 lf2 t5 wi))
          case atStart => exact ⟨0, l, left, by unfold Hid; omega, rfl, hGs, fun _ _ e _ => e, ⟨[], by simp⟩, fun y hy => by simp at hy, HH6⟩
          case round =>
            obtain ⟨k, l2, lf2, hk, rfl, hGs2, hup, hmo, hC1, hGh⟩ := hrel
            have k0' : (0 : Int) ≤ (k : Int) := by omega
            have hle2 := (unhide hGs2).le
            obtain ⟨n2, hn2⟩ : ∃ n2, Hid (lf2.length = n2) := ⟨_, rfl⟩
            obtain ⟨ta2, tc2, etv2, _, _⟩ := (unhide hGh).m.rt.shape
            rw [unhide hn2] at etv2
            rw [unhide hn2, unhide hNN] at hle2
            subst etv2
            by_cases hkl : k < L
            · have k1' : (k : Int) < (L : Int) := by omega
              obtain ⟨y, hy⟩ : ∃ y, ys[k]? = some y := ⟨_, List.getElem?_eq_getElem (by rw [unhide hL]; exact hkl)⟩
              have hym : y ∈ nxl f.code.length op a p := by rw [unhide hys]; exact List.mem_of_getElem? hy
              obtain ⟨y0, y1⟩ := unhide HNR y hym
              rw [unhide hNN] at y1
              obtain ⟨yb, yo, yc, eg, _, gk1⟩ := (show Rn wr _ ys from Rx.of_ro (unhide hGh).ra).at hy
              rw [unhide hL] at eg
              cases eg
              obtain ⟨yn, rfl⟩ : ∃ yn : Nat, y = (yn : Int) := ⟨y.toNat, by omega⟩
              have hl2 : l2.length = N := by rw [← unhide hNN]; exact (unhide hGs2).len
              obtain ⟨z, y2⟩ : ∃ z, l2[yn]? = some z := ⟨_, List.getElem?_eq_getElem (by omega)⟩
              have hrl : Rn wr (.slice (some ⟨g, go, none⟩) N vc) l2 := Rx.of_ro (by rw [hl2]; exact (unhide hGh).m.rl)
              obtain ⟨_, _, _, eg, _, gk2⟩ := hrl.at y2
              rw [hl2] at eg
              cases eg
              have hp2 : l2[p]? = some h := unhide hup p h (unhide HLP).1 (unhide HLP).2
              obtain ⟨_, _, _, eg, _, kp1⟩ := hrl.at hp2
              rw [hl2] at eg
              cases eg
              have g1 := World.block_lt_of_cell? _ _ gk1
              have g2 := World.block_lt_of_cell? _ _ gk2
              have y3 : ¬ (N : Int) ≤ (yn : Int) := by omega
              have y4 : ¬ (yn : Int) < 0 := by omega
              have hyN : yn < N := by omega
              have HY := hide hy
              have HYM := hide hym
              have HY2 := hide y2
              have HP2 := hide hp2
              have HW2 : Hid (Wy f l2 p h) := (unhide HWY).mono (unhide hup)
              clear hy hym y2 hrl hp2 hl2
              by_cases hz : z < 0
              · have kfz : wr.frozen? ⟨g, go + yn, none⟩ = false := (unhide hGh).m.rl.free rfl _
                have hpy : Hid (¬ yn = p) := fun e => by
                  subst e
                  have e1 := unhide HY2
                  rw [unhide HP2] at e1
                  cases e1
                  have := (unhide HLP).2
                  omega
                have HPUT := hide ((unhide hGh).put hyN bh)
                have HS2 : Hid ((wr.setCell ⟨g, go + yn, none⟩ (.int .i64 bh)).cell? ⟨yb, yo + k, none⟩ = some (.int .i64 (yn : Int)) ∧ (wr.setCell ⟨g, go + yn, none⟩ (.int .i64 bh)).cell? ⟨g, go + p, none⟩ = some (.int .i64 h)) := by
                  have hpu := unhide HPUT
                  refine ⟨?_, ?_⟩
                  · obtain ⟨_, _, _, eg, _, gk1⟩ := (show Rn _ _ ys from Rx.of_ro hpu.ra).at (unhide HY)
                    rw [unhide hL] at eg
                    cases eg
                    exact gk1
                  · have hl3 : (l2.set yn bh).length = N := by rw [List.length_set, ← unhide hNN]; exact (unhide hGs2).len
                    obtain ⟨_, _, _, eg, _, gk1⟩ := (show Rn _ (.slice (some ⟨g, go, none⟩) N vc) (l2.set yn bh) from Rx.of_ro (by rw [hl3]; exact hpu.m.rl)).at (show (l2.set yn bh)[p]? = some h by rw [List.getElem?_set_ne (unhide hpy)]; exact unhide HP2)
                    rw [hl3] at eg
                    cases eg
                    exact gk1
                go_wp2_with fail
                refine wp_region_held_drew (S := (fun wx => wx.cell? ⟨yb, yo + k, none⟩ = some (.int .i64 (yn : Int)) ∧ wx.cell? ⟨g, go + p, none⟩ = some (.int .i64 h))) (by kernel_rfl) ⟨gk1, kp1⟩ (fun hHeld => ?_)
                refine wpAnyH_take (i := 0) (oi := _) (v := .slice (some ⟨g, go, none⟩) N vc) rfl (by kernel_rfl) (by kernel_rfl) (by kernel_rfl) (fun _ _ _ h => h) (Or.inl ⟨by rfl, (by intro wz hSw; go_simp)⟩) (by assumption) ?_
                go_simp
                refine wpAnyH_take (i := 1) (oi := _) (v := .slice (some ⟨yb, yo, none⟩) L ac) rfl (by kernel_rfl) (by kernel_rfl) (by kernel_rfl) (fun _ _ _ h => h) (Or.inl ⟨by rfl, (by intro wz hSw; go_simp)⟩) (by assumption) ?_
                go_simp
                refine wpAnyH_take (i := 2) (oi := _) (v := .int .i64 (k : Int)) rfl (by kernel_rfl) (by kernel_rfl) (by kernel_rfl) (fun _ _ _ h => h) (Or.inl ⟨by rfl, (by intro wz hSw; go_simp)⟩) (by assumption) ?_
                go_simp
                refine wpAnyH_take (i := 3) (oi := _) (v := .pointer (some ⟨yb, yo + k, none⟩)) rfl (by kernel_rfl) (by kernel_rfl) (by kernel_rfl) (fun _ _ _ h => h) (Or.inl ⟨by rfl, (by intro wz hSw; go_simp)⟩) (by assumption) ?_
                go_simp
                refine wpAnyH_take (i := 4) (oi := _) (v := .int .i64 (yn : Int)) rfl (by kernel_rfl) (by kernel_rfl) (by kernel_rfl) (fun _ _ _ h => h) (Or.inl ⟨by rfl, (by intro wz hSw; have s0 := hSw.1; have s1 := hSw.2; have s2 := World.block_lt_of_cell? _ _ s0; have s3 := World.block_lt_of_cell? _ _ s1; go_simp)⟩) (by assumption) ?_
                go_simp
                refine wpAnyH_take (i := 5) (oi := _) (v := .slice (some ⟨g, go, none⟩) N vc) rfl (by kernel_rfl) (by kernel_rfl) (by kernel_rfl) (fun _ _ _ h => h) (Or.inl ⟨by rfl, (by intro wz hSw; go_simp)⟩) (by assumption) ?_
                go_simp
                refine wpAnyH_take (i := 6) (oi := _) (v := .int .i64 (p : Int)) rfl (by kernel_rfl) (by kernel_rfl) (by kernel_rfl) (fun _ _ _ h => h) (Or.inl ⟨by rfl, (by intro wz hSw; go_simp)⟩) (by assumption) ?_
                go_simp
                refine wpAnyH_take (i := 7) (oi := _) (v := .pointer (some ⟨g, go + p, none⟩)) rfl (by kernel_rfl) (by kernel_rfl) (by kernel_rfl) (fun _ _ _ h => h) (Or.inl ⟨by rfl, (by intro wz hSw; go_simp)⟩) (by assumption) ?_
                go_simp
                refine wpAnyH_take (i := 8) (oi := _) (v := .int .i64 h) rfl (by kernel_rfl) (by kernel_rfl) (by kernel_rfl) (fun _ _ _ h => h) (Or.inl ⟨by rfl, (by intro wz hSw; have s0 := hSw.1; have s1 := hSw.2; have s2 := World.block_lt_of_cell? _ _ s0; have s3 := World.block_lt_of_cell? _ _ s1; go_simp)⟩) (by assumption) ?_
                go_simp
                refine wpAnyH_take (i := 9) (oi := _) (v := .int .i64 T) rfl (by kernel_rfl) (by kernel_rfl) (by kernel_rfl) (fun _ _ _ h => h) (Or.inl ⟨by rfl, (by intro wz hSw; go_simp)⟩) (by assumption) ?_
                go_simp
                refine wpAnyH_take (i := 10) (oi := _) (v := .int .i64 kp) rfl (by kernel_rfl) (by kernel_rfl) (by kernel_rfl) (fun _ _ _ h => h) (Or.inl ⟨by rfl, (by intro wz hSw; go_simp)⟩) (by assumption) ?_
                go_simp
                refine wpAnyH_take (i := 11) (oi := _) (v := .int .i64 U) rfl (by kernel_rfl) (by kernel_rfl) (by kernel_rfl) (fun _ _ _ h => h) (Or.inl ⟨by rfl, (by intro wz hSw; go_simp)⟩) (by assumption) ?_
                go_simp
                refine wpAnyH_take (i := 12) (oi := _) (v := .int .i64 bh) rfl (by kernel_rfl) (by kernel_rfl) (by kernel_rfl) (fun _ _ _ h => h) (Or.inl ⟨by rfl, (by intro wz hSw; go_simp)⟩) (by assumption) ?_
                go_simp
                refine wpAnyH_take (i := 13) (oi := _) (v := .pointer (some ⟨g, go + yn, none⟩)) rfl (by kernel_rfl) (by kernel_rfl) (by kernel_rfl) (fun _ _ _ h => h) (Or.inl ⟨by rfl, (by intro wz hSw; go_simp)⟩) (by assumption) ?_
                go_simp
                refine wpAnyH_ready (rs := [14]) (by kernel_rfl) (by simp) ?_
                refine AllReadyH.cons (o := _) rfl (fun K hK => ?_) AllReadyH.nil
                go_simp
                refine hK.out _ _ (unhide HS2) (fun hHeld14x => ?_)
                clear hK K
                go_simp
                refine wpAnyH_done (by kernel_rfl) ?_ _
                obtain ⟨Wz, eWz⟩ : ∃ Wz, Wz = (wr.setCell ⟨g, go + yn, none⟩ (.int .i64 bh)).drew := ⟨_, rfl⟩
                rw [← eWz] at HPUT ⊢
                have HUP2 : Hid (∀ (q : Nat) z, l2[q]? = some z → 0 ≤ z → (l2.set yn bh)[q]? = some z) := set_up (unhide HY2) hz
                have HAT : Hid ((l2.set yn bh)[yn]? = some bh) := set_at (unhide HY2)
                obtain ⟨r1, r2⟩ : Wz.cell? ⟨yb, yo + k, none⟩ = some (.int .i64 (yn : Int)) ∧ Wz.cell? ⟨g, go + yn, none⟩ = some (.int .i64 bh) := by
                  refine ⟨by rw [eWz]; exact (unhide HS2).1, ?_⟩
                  have hl3 : (l2.set yn bh).length = N := by rw [List.length_set, ← unhide hNN]; exact (unhide hGs2).len
                  obtain ⟨_, _, _, eg, _, gk1⟩ := (show Rn _ (.slice (some ⟨g, go, none⟩) N vc) (l2.set yn bh) from Rx.of_ro (by rw [hl3]; exact (unhide HPUT).m.rl)).at (unhide HAT)
                  rw [hl3] at eg
                  cases eg
                  exact gk1
                have lr1 := World.block_lt_of_cell? _ _ r1
                have lr2 := World.block_lt_of_cell? _ _ r2
                clear HS2 eWz gk1 gk2 kp1 g1 g2 kfz hHeld
                by_cases hbn : bh < 0
                · have HR : Hid (GuR f (l2.set yn bh)) := by
                    refine ⟨by rw [List.length_set]; exact (unhide hGs2).len, fun y hy => ?_, .inl ⟨p, yn, h, op, a, bh, (unhide HW2).mono (unhide HUP2), unhide HCI, unhide HYM, ?_, hbn, unhide HAT⟩⟩
                    · rcases List.mem_or_eq_of_mem_set hy with hy | hy
                      · have := (unhide hGs2).bd y hy
                        rw [unhide hn2] at this
                        omega
                      · have := unhide HBH
                        omega
                    · rw [unhide hT, unhide hU]; exact (unhide hBH).symm
                  go_wp2_with fail
                  go_ret
                  have hl3 : (l2.set yn bh).length = N := by rw [List.length_set, ← unhide hNN]; exact (unhide hGs2).len
                  exact ⟨_, l2.set yn bh, rfl, by rw [hl3]; exact (unhide HPUT).m.rl, unhide HR, (unhide HPUT).m.bel⟩
                · have HRT : Ro Wz 1 (.slice ta2 n2 tc2) lf2.length (flt enN lf2) := (unhide HPUT).m.rt
                  have hge : Hid (n ≤ n2) := by obtain ⟨more, e⟩ := unhide hmo; unfold Hid; rw [← unhide hn2, ← unhide hn, e]; simp
                  have HGN : Hid (Gs f (l2.set yn bh) (lf2 ++ [(yn : Int)])) := (unhide hGs2).put (unhide HY2) hz (by omega) (by rw [unhide hn2]; have := unhide HBH; have := unhide hge; omega) (.next ((unhide HW2).mono (unhide HUP2)) (unhide HCI) (unhide HYM) (by rw [unhide hT, unhide hU]; exact (unhide hBH).symm) (by omega) (unhide HAT))
                  have HC1 : Hid (Cl1 f (l2.set yn bh) p (ys.take (k + 1))) := by
                    rw [take_push (unhide HY)]
                    intro y hy
                    rcases List.mem_append.1 hy with q | q
                    · exact ((unhide hC1).mono (unhide HUP2)) y q
                    · simp at q; subst q; exact ⟨bh, by simpa using unhide HAT, by omega⟩
                  have HMO : Hid (∃ more, lf2 ++ [(yn : Int)] = left ++ more) := by obtain ⟨more, e⟩ := unhide hmo; exact ⟨more ++ [(yn : Int)], by rw [e, List.append_assoc]⟩
                  have HUP3 : Hid (∀ (q : Nat) z, l[q]? = some z → 0 ≤ z → (l2.set yn bh)[q]? = some z) := fun q z e h0 => unhide HUP2 q z (unhide hup q z e h0) h0
                  go_wp2_with (first | (at_builtin; refine wpList_appN rfl _ _ rfl (.slice ta2 n2 tc2) lf2 rfl (HRT.keep (fun g hg => Below.heap_alloc _ _ _ (HRT.lt g hg))) ⟨Wz.heap.size, 0, none⟩ 1 (yn : Int) rfl (new_cells Wz #[.int .i64 (yn : Int)] 3) (by have := unhide hn2; omega) ?_; intro v6 w6 hr6 hg6 hat6; have G2 := hide ((unhide HPUT).push (q := (yn : Int)) hr6 rfl hg6 hat6); clear hr6 hg6 hat6))
                  go_roundg (gk - 1)
                  case measure => have := unhide hk; omega
                  case rel => exact ⟨k + 1, _, _, by have := unhide hk; unfold Hid; omega, by go_num, HGN, HUP3, HMO, HC1, G2⟩
              · have HC1 : Hid (Cl1 f l2 p (ys.take (k + 1))) := by
                  rw [take_push (unhide HY)]
                  intro y hy
                  rcases List.mem_append.1 hy with q | q
                  · exact (unhide hC1) y q
                  · simp at q; subst q; exact ⟨z, by simpa using unhide HY2, by omega⟩
                go_wp2_with fail
                go_roundg (gk - 1)
                case measure => have := unhide hk; omega
                case rel => exact ⟨k + 1, l2, lf2, by have := unhide hk; unfold Hid; omega, by go_num, hGs2, hup, hmo, HC1, hGh⟩
            · have k1' : ¬ (k : Int) < (L : Int) := by omega
              have HC1A : Hid (Cl1 f l2 p ys) := by have := unhide hC1; rw [List.take_of_length_le (by rw [unhide hL]; omega)] at this; exact this
              have HGM2 := hide (unhide hGh).m
              go_wp2_with fail
              clear k1' k0' hGh hC1
              go_loopg [5, 13] H (fun gg t5 t13 wi => ∃ (j : Nat) (l3 lf3 : List Int), Hid (j + gg = H) ∧ t13 = .int .i64 (j : Int) ∧ Hid (Gs f l3 lf3) ∧ Hid (∀ (q : Nat) z, l[q]? = some z → 0 ≤ z → l3[q]? = some z) ∧ Hid (∃ more, lf3 = left ++ more) ∧ Hid (Cl1 f l3 p ys) ∧ Hid (Cl2 f l3 p (f.hs.take j)) ∧ Hid (Gm w ⟨nm, pr, lcl, .slice (some ⟨cb, co, none⟩) N cc, .slice ha2 H hc2⟩ N g go vc l3 lf3 t5 wi))
              case atStart => exact ⟨0, l2, lf2, by unfold Hid; omega, rfl, hGs2, hup, hmo, HC1A, fun y hy => by simp at hy, HGM2⟩
              case round =>
                clear HGM2 hGs2 hup hmo HC1A hn2 hle2
                obtain ⟨j, l3, lf3, hj, rfl, hGs3, hup, hmo, hC1, hC2, hGm3⟩ := hrel
                have j0 : (0 : Int) ≤ (j : Int) := by omega
                have hle3 := (unhide hGs3).le
                obtain ⟨n3, hn3⟩ : ∃ n3, Hid (lf3.length = n3) := ⟨_, rfl⟩
                obtain ⟨ta3, tc3, etv3, _, _⟩ := (unhide hGm3).rt.shape
                rw [unhide hn3] at etv3
                rw [unhide hn3, unhide hNN] at hle3
                subst etv3
                have d4 := (unhide hGm3).box 4 _ rfl
                have ld := World.block_lt_of_cell? _ _ d4
                by_cases hjl : j < H
                · have j1 : (j : Int) < (H : Int) := by omega
                  obtain ⟨kk, hkk⟩ : ∃ k, f.hs[j]? = some k := ⟨_, List.getElem?_eq_getElem (by rw [unhide hHH]; exact hjl)⟩
                  obtain ⟨qb, qo, qc, eq, _, _, lq, hq⟩ := Rx.elem zH (unhide HX).2.2.2.2 hkk
                  simp only at eq
                  rw [unhide hHH] at eq
                  cases eq
                  have q0 := (unhide hGm3).bel.cell (p := ⟨qb, qo + j * 4 + 0, none⟩) lq |>.trans (hq 0 _ rfl)
                  have q1 := (unhide hGm3).bel.cell (p := ⟨qb, qo + j * 4 + 1, none⟩) lq |>.trans (hq 1 _ rfl)
                  have q2 := (unhide hGm3).bel.cell (p := ⟨qb, qo + j * 4 + 2, none⟩) lq |>.trans (hq 2 _ rfl)
                  have q3 := (unhide hGm3).bel.cell (p := ⟨qb, qo + j * 4 + 3, none⟩) lq |>.trans (hq 3 _ rfl)
                  rw [Nat.add_zero] at q0
                  have lqw := World.block_lt_of_cell? _ _ q0
                  have hko := (unhide HOF).hd kk (List.mem_of_getElem? hkk)
                  have HKM := hide (List.mem_of_getElem? hkk)
                  have HCX : Hid ((kk.frm ≤ (p : Int) → (p : Int) < kk.to → ∃ h, l3[kk.target.toNat]? = some h ∧ 0 ≤ h) → Cl2 f l3 p (f.hs.take (j + 1))) := fun hq => by
                    rw [take_push hkk]
                    intro k hk ha hb
                    rcases List.mem_append.1 hk with q | q
                    · exact unhide hC2 k q ha hb
                    · simp at q; subst q; exact hq ha hb
                  have HKK := hide hkk
                  obtain ⟨fr, to', tg, hg⟩ := kk
                  simp only at q0 q1 q2 q3 hko HCX
                  rw [unhide hNN] at hko
                  have HBn : Hid (Below wr.heap.size wr (wr.alloc (.cells #[.int .i64 fr, .int .i64 to', .int .i64 tg, .int .i64 hg] 65))) := (Below.refl _ _).alloc (Nat.le_refl _) _
                  have nc := fun j z (hz : #[Value.int .i64 fr, .int .i64 to', .int .i64 tg, .int .i64 hg].toList[j]? = some z) => new_cells wr #[.int .i64 fr, .int .i64 to', .int .i64 tg, .int .i64 hg] 65 j z hz
                  obtain ⟨Wn, eWn⟩ : ∃ Wn, Wn = wr.alloc (.cells #[.int .i64 fr, .int .i64 to', .int .i64 tg, .int .i64 hg] 65) := ⟨_, rfl⟩
                  have r0 : Wn.cell? ⟨wr.heap.size, 0, none⟩ = some (.int .i64 fr) := by have := nc 0 _ rfl; rw [Go.WideShapes.add_plain] at this; rw [eWn]; exact this
                  have r1 : Wn.cell? ⟨wr.heap.size, 1, none⟩ = some (.int .i64 to') := by have := nc 1 _ rfl; rw [Go.WideShapes.add_plain] at this; rw [eWn]; exact this
                  have r2 : Wn.cell? ⟨wr.heap.size, 2, none⟩ = some (.int .i64 tg) := by have := nc 2 _ rfl; rw [Go.WideShapes.add_plain] at this; rw [eWn]; exact this
                  have r3 : Wn.cell? ⟨wr.heap.size, 3, none⟩ = some (.int .i64 hg) := by have := nc 3 _ rfl; rw [Go.WideShapes.add_plain] at this; rw [eWn]; exact this
                  have lr := World.block_lt_of_cell? _ _ r0
                  rw [← eWn] at HBn
                  have HMN := hide ((unhide hGm3).keep (unhide HBn))
                  have hwg : IntKind.i64.wrap (hg + 1) = hg + 1 := by rw [IntKind.wrap_i64]; omega
                  obtain ⟨tn, rfl⟩ : ∃ tn : Nat, tg = (tn : Int) := ⟨tg.toNat, by omega⟩
                  have htN : tn < N := by omega
                  have t0 : (0 : Int) ≤ (tn : Int) := by omega
                  have t1 : (tn : Int) < (N : Int) := by omega
                  have hg0 : (0 : Int) ≤ hg := by omega
                  have hl3 : l3.length = N := by rw [← unhide hNN]; exact (unhide hGs3).len
                  obtain ⟨z, z4⟩ : ∃ z, l3[tn]? = some z := ⟨_, List.getElem?_eq_getElem (by omega)⟩
                  obtain ⟨_, _, _, eg, _, gk2⟩ := (show Rn Wn (.slice (some ⟨g, go, none⟩) N vc) l3 from Rx.of_ro (by rw [hl3]; exact (unhide HMN).rl)).at z4
                  rw [hl3] at eg
                  cases eg
                  have g2 := World.block_lt_of_cell? _ _ gk2
                  have HZ4 := hide z4
                  have HKO := hide hko
                  clear hq nc hkk z4 hl3 hko
                  have gk2w : wr.cell? ⟨g, go + tn, none⟩ = some (.int .i64 z) := (((unhide HBn).cell (p := ⟨g, go + tn, none⟩) ((unhide hGm3).rl.lt g rfl)).symm).trans gk2
                  have g2w := World.block_lt_of_cell? _ _ gk2w
                  by_cases ha : fr ≤ (p : Int)
                  · by_cases hb' : (p : Int) < to'
                    · by_cases hz : z < 0
                      · have HPUT := hide (((unhide hGm3).put htN (hg + 1)).keep ((Below.refl _ (wr.setCell ⟨g, go + tn, none⟩ (.int .i64 (hg + 1)))).alloc (Nat.le_refl _) (.cells #[.int .i64 fr, .int .i64 to', .int .i64 (tn : Int), .int .i64 hg] 65)))
                        obtain ⟨Wz, eWz⟩ : ∃ Wz, Wz = (wr.setCell ⟨g, go + tn, none⟩ (.int .i64 (hg + 1))).alloc (.cells #[.int .i64 fr, .int .i64 to', .int .i64 (tn : Int), .int .i64 hg] 65) := ⟨_, rfl⟩
                        rw [← eWz] at HPUT
                        have HUP2 : Hid (∀ (q : Nat) z, l3[q]? = some z → 0 ≤ z → (l3.set tn (hg + 1))[q]? = some z) := set_up (unhide HZ4) hz
                        have HAT : Hid ((l3.set tn (hg + 1))[tn]? = some (hg + 1)) := set_at (unhide HZ4)
                        have HRT : Ro Wz 1 (.slice ta3 n3 tc3) lf3.length (flt enN lf3) := (unhide HPUT).rt
                        have HGN : Hid (Gs f (l3.set tn (hg + 1)) (lf3 ++ [(tn : Int)])) := (unhide hGs3).put (unhide HZ4) hz (by omega) (by have := unhide HKO; omega) (.hand ((unhide HWY).mono (fun q z e h0 => unhide HUP2 q z (unhide hup q z e h0) h0)) (unhide HKM) ha hb' rfl rfl (by show (0 : Int) ≤ hg + 1; omega) (unhide HAT))
                        have HC2 : Hid (Cl2 f (l3.set tn (hg + 1)) p (f.hs.take (j + 1))) := by
                          rw [take_push (unhide HKK)]
                          intro k hk ha hb
                          rcases List.mem_append.1 hk with q | q
                          · exact (unhide hC2).mono (unhide HUP2) k q ha hb
                          · simp at q; subst q; exact ⟨hg + 1, by simpa using unhide HAT, by omega⟩
                        have HC1 : Hid (Cl1 f (l3.set tn (hg + 1)) p ys) := (unhide hC1).mono (unhide HUP2)
                        have HMO : Hid (∃ more, lf3 ++ [(tn : Int)] = left ++ more) := by obtain ⟨more, e⟩ := unhide hmo; exact ⟨more ++ [(tn : Int)], by rw [e, List.append_assoc]⟩
                        have HUP3 : Hid (∀ (q : Nat) z, l[q]? = some z → 0 ≤ z → (l3.set tn (hg + 1))[q]? = some z) := fun q z e h0 => unhide HUP2 q z (unhide hup q z e h0) h0
                        have hsz : Hid (Wz.heap.size = wr.heap.size + 1) := by unfold Hid; rw [eWz]; simp
                        subst eWn
                        have kfzw : wr.frozen? ⟨g, go + tn, none⟩ = false := (unhide hGm3).rl.free rfl _
                        go_wp2_with (first | (at_builtin; rw [← eWz]; refine wpList_appN rfl _ _ rfl (.slice ta3 n3 tc3) lf3 rfl (HRT.keep (fun g hg => Below.heap_alloc _ _ _ (HRT.lt g hg))) ⟨wr.heap.size + 1, 0, none⟩ 1 (tn : Int) rfl (by rw [← unhide hsz]; exact new_cells Wz #[.int .i64 (tn : Int)] 3) (by have := unhide hn3; omega) ?_; intro v6 w6 hr6 hg6 hat6; have G2 := hide ((unhide HPUT).push (q := (tn : Int)) hr6 rfl hg6 hat6); clear hr6 hg6 hat6))
                        go_roundg (gk - 1)
                        case measure => have := unhide hj; omega
                        case rel => exact ⟨j + 1, _, _, by have := unhide hj; unfold Hid; omega, by go_num, HGN, HUP3, HMO, HC1, HC2, G2⟩
                      · have HC2 : Hid (Cl2 f l3 p (f.hs.take (j + 1))) := unhide HCX (fun _ _ => ⟨z, by simpa using unhide HZ4, by omega⟩)
                        subst eWn
                        go_wp2_with fail
                        go_roundg (gk - 1)
                        case measure => have := unhide hj; omega
                        case rel => exact ⟨j + 1, l3, lf3, by have := unhide hj; unfold Hid; omega, by go_num, hGs3, hup, hmo, hC1, HC2, HMN⟩
                    · have HC2 : Hid (Cl2 f l3 p (f.hs.take (j + 1))) := unhide HCX (fun _ q => absurd q hb')
                      subst eWn
                      go_wp2_with fail
                      go_roundg (gk - 1)
                      case measure => have := unhide hj; omega
                      case rel => exact ⟨j + 1, l3, lf3, by have := unhide hj; unfold Hid; omega, by go_num, hGs3, hup, hmo, hC1, HC2, HMN⟩
                  · have HC2 : Hid (Cl2 f l3 p (f.hs.take (j + 1))) := unhide HCX (fun q => absurd q ha)
                    subst eWn
                    go_wp2_with fail
                    go_roundg (gk - 1)
                    case measure => have := unhide hj; omega
                    case rel => exact ⟨j + 1, l3, lf3, by have := unhide hj; unfold Hid; omega, by go_num, hGs3, hup, hmo, hC1, HC2, HMN⟩
                · have j1 : ¬ (j : Int) < (H : Int) := by omega
                  have HCA : Hid (∀ j' q, j' < i + 1 → lf3[j']? = some q → Cl f l3 q.toNat) := by
                    intro j' q hj' hq'
                    obtain ⟨more, e⟩ := unhide hmo
                    have hin : j' < left.length := by rw [unhide hn]; omega
                    rw [e, List.getElem?_append_left hin] at hq'
                    by_cases c : j' < i
                    · exact (unhide hCl j' q c hq').mono (unhide hup)
                    · have : j' = i := by omega
                      subst this
                      rw [unhide HQ] at hq'
                      cases hq'
                      rw [Int.toNat_natCast]
                      refine ⟨fun op' a' e' => ?_, ?_⟩
                      · rw [unhide HCI] at e'
                        cases e'
                        rw [unhide hys]
                        exact unhide hC1
                      · have := unhide hC2
                        rw [List.take_of_length_le (by rw [unhide hHH]; omega)] at this
                        exact this
                  go_wp2_with fail
                  go_roundg (G - 1)
                  case measure => have := unhide hG; have := unhide hi; omega
                  case rel => exact ⟨i + 1, l3, lf3, by have := unhide hi; unfold Hid; omega, by go_num, hGs3, HCA, hGm3⟩
        · have i1 : ¬ (i : Int) < (n : Int) := by omega
          have HR : Hid (GuR f l) := by
            refine ⟨(unhide hGs).len, fun y hy => ?_, .inr ⟨left, unhide hGs, fun q hq => ?_⟩⟩
            · have := (unhide hGs).bd y hy
              rw [unhide hn] at this
              omega
            · obtain ⟨j, hj⟩ := List.getElem?_of_mem hq
              refine unhide hCl j q ?_ hj
              have := (List.getElem?_eq_some_iff.1 hj).1
              rw [unhide hn] at this
              omega
          go_wp2_with fail
          go_ret
          have hl3 : l.length = N := by rw [← unhide hNN]; exact (unhide hGs).len
          exact ⟨_, l, rfl, by rw [hl3]; exact (unhide hGm).rl, unhide HR, (unhide hGm).bel⟩
end Go.Proofs.YtbphddocgdihjaaDoor
