/-
  VerifyTakes holds.
-/
import Derived.Test.YtbphddocgdihjaaDoorVWork2
import Derived.Test.YtbphddocgdihjaaDoorVGue1
import Derived.Test.YtbphddocgdihjaaDoorVGue
import Derived.Test.YtbphddocgdihjaaDoorVFall2
namespace Go.Proofs.YtbphddocgdihjaaDoor
open Go.RowKit
set_option linter.unusedVariables false
set_option linter.unusedSimpArgs false
theorem FnR.uniq {f : Fc} {l l' : List Int} (h : FnR f (some l) 0 0) (h' : FnR f (some l') 0 0) : l = l' := by
  rcases h with h | h | ⟨_, _, _, _, l1, e, hl, hm⟩
  · cases h.2.1
  · cases h.2.1
  rcases h' with h' | h' | ⟨_, _, _, _, l2, e', hl', hm'⟩
  · cases h'.2.1
  · cases h'.2.1
  cases e; cases e'
  refine List.ext_getElem? fun p => ?_
  cases q : l[p]? with
  | none => rw [List.getElem?_eq_none_iff] at q; rw [List.getElem?_eq_none (by omega)]
  | some z => rw [(hm' p z).2 ((hm p z).1 q)]
theorem FnR.not {f : Fc} {l : List Int} {a er : Int} (h : FnR f (some l) 0 0) (h' : FnR f none a er) : False := by
  rcases h with h | h | ⟨_, _, hb, hu, _⟩
  · cases h.2.1
  · cases h.2.1
  rcases h' with ⟨_, _, p, _, hp, _⟩ | ⟨_, _, _, p, _, hp, _⟩ | ⟨_, _, _, _, _, e, _⟩
  · exact hb p hp
  · exact hu p hp
  · cases e
theorem FnR.place {f : Fc} {a er : Int} (h' : FnR f none a er) : (er = 9 ∨ er = 10) ∧ 0 ≤ a ∧ a < (f.code.length : Int) := by
  rcases h' with ⟨h1, _, p, rfl, ⟨_, _, _, _, hi, _⟩, _⟩ | ⟨h1, _, _, p, rfl, ⟨_, _, hi, _⟩, _⟩ | ⟨_, _, _, _, _, e, _⟩
  · have := (List.getElem?_eq_some_iff.1 hi).1
    exact ⟨.inl h1, by omega, by omega⟩
  · have := (List.getElem?_eq_some_iff.1 hi).1
    exact ⟨.inr h1, by omega, by omega⟩
  · cases e
theorem GuR.found {f : Fc} (hf : OkF f) {l : List Int} (G : GuR f l) (F : FitA f l) : FnR f (some l) 0 0 := by
  obtain ⟨h0, ⟨op, a, hi, he⟩, hfit⟩ := F
  exact FnR.of_fit hf G.1 h0 hfit hi he (G.way hfit)
theorem GuR.fits {f : Fc} (hf : OkF f) {l l' : List Int} (G : GuR f l) (h : FnR f (some l') 0 0) : FitA f l ∧ l = l' := by
  have e := G.eq hf h
  subst e
  obtain ⟨_, h0, hfit, hop⟩ := fitO_of hf h
  exact ⟨⟨h0, hop, hfit⟩, rfl⟩
set_option maxRecDepth 100000 in
set_option maxHeartbeats 6400000 in
theorem takesLaw {w : World} {pv : Value} {p : Pg} (hp : PgV w pv p) (hok : OkP p) (hg : Laid w) :
    Calls Tryd.prog 4 #[pv] w fun e w' => e = .returned (.bool true) ∧ Below w.heap.size w w' := by
  have gl : 0 < w.heap.size := World.block_lt_of_cell? _ _ hg
  have HPV := hide hp
  obtain ⟨cv, fv, rfl, hc, hf⟩ := hp
  obtain ⟨_, ca, ccap, rfl, _, _, _⟩ := hc
  obtain ⟨fa, fcap, rfl, hfl, hfm, hat⟩ := hf.at
  obtain ⟨NC, hNC⟩ : ∃ n, Hid (p.consts.length = n) := ⟨_, rfl⟩
  obtain ⟨NF, hNF⟩ : ∃ n, Hid (p.funcs.length = n) := ⟨_, rfl⟩
  rw [unhide hNF] at hfl
  unfold maxLen at hfm
  rw [unhide hNC, unhide hNF] at HPV
  rw [unhide hNC, unhide hNF]
  obtain ⟨W1, eW1⟩ : ∃ W1, W1 = w.alloc (.cells #[.slice ca NC ccap, .slice fa NF fcap] 25) := ⟨_, rfl⟩
  have b1 : Below w.heap.size w W1 := by rw [eW1]; exact (Below.refl _ _).alloc (Nat.le_refl _) _
  have r1 : Ro W1 2 (.slice (some ⟨w.heap.size, 0, none⟩) 1 1) 1 [.slice ca NC ccap, .slice fa NF fcap] := by rw [eW1]; exact B2.new _ _ _ _
  have HW := hide (works_any ((b1.cell (p := ⟨0, 0, none⟩) gl).trans hg))
  have HB1 := hide b1
  have HR1 := hide r1
  have HAT := hide hat
  have HOK := hide hok
  have HLG := hide hg
  clear b1 r1 hat hf hok hg
  go_enter Tryd.func4, Tryd.ntmps4
  go_wp2_with fail
  rw [← eW1]
  refine (unhide HW).mono ?_
  rintro e W2 ⟨rfl, hb2⟩
  have HB2 : Hid (Below w.heap.size w W2) := (unhide HB1).trans (hb2.mono (unhide HB1).size)
  have r2 := (unhide HR1).keep (fun g hg => hb2.block g ((unhide HR1).lt g hg))
  obtain ⟨d0, d1⟩ := B2.cells r2
  have ld := World.block_lt_of_cell? _ _ d0
  have HCK := hide (pCheck_any ((unhide HPV).below (unhide HB2) (Nat.le_refl _)) (unhide HOK) (((unhide HB2).cell (p := ⟨0, 0, none⟩) gl).trans (unhide HLG)))
  have HR2 := hide r2
  clear hb2 r2 HW eW1
  obtain ⟨kc, ac, yc, hck⟩ : ∃ kc ac yc, rsV (ckF p) = .tuple #[.agg #[.int .i64 kc, .int .i64 ac], .int .i64 yc] ∧ ((ckF p = none ∧ kc = 0 ∧ ac = 0 ∧ yc = 0) ∨ (ckF p = some (kc, ac, yc) ∧ yc ≠ 0)) := by
    cases h : ckF p with
    | none => exact ⟨0, 0, 0, rfl, .inl ⟨rfl, rfl, rfl, rfl⟩⟩
    | some o => obtain ⟨k, a, y⟩ := o; exact ⟨k, a, y, rfl, .inr ⟨rfl, ckF_ne h⟩⟩
  rw [hck.1] at HCK
  have HKC := hide hck.2
  clear hck
  go_wp2_with fail
  refine (unhide HCK).mono ?_
  rintro e W3 ⟨rfl, hb3⟩
  obtain ⟨W4, eW4⟩ : ∃ W4, W4 = W3.alloc (.cells #[.int .i64 kc, .int .i64 ac] 32) := ⟨_, rfl⟩
  have b4 : Below W2.heap.size W2 W4 := by rw [eW4]; exact hb3.alloc hb3.size _
  have HB4 : Hid (Below w.heap.size w W4) := (unhide HB2).trans (b4.mono (unhide HB2).size)
  have r4 := (unhide HR2).keep (fun g hg => b4.block g ((unhide HR2).lt g hg))
  have p4 : Ro W4 2 (.slice (some ⟨W3.heap.size, 0, none⟩) 1 1) 1 [.int .i64 kc, .int .i64 ac] := by rw [eW4]; exact B2.new _ _ _ _
  obtain ⟨d0, d1⟩ := B2.cells r4
  have ld := World.block_lt_of_cell? _ _ d0
  have HC := hide (program_any ((unhide HPV).below (unhide HB4) (Nat.le_refl _)) (unhide HOK) (((unhide HB4).cell (p := ⟨0, 0, none⟩) gl).trans (unhide HLG)))
  have HR4 := hide r4
  have HP4 := hide p4
  have f4 := Fr.of_below (S := fun _ => False) (hb3)
  have dd0 := (hb3.cell (p := ⟨w.heap.size, 0, none⟩) ((unhide HR2).lt _ rfl)).trans (B2.cells (unhide HR2)).1
  have dd1 := (hb3.cell (p := ⟨w.heap.size, 1, none⟩) ((unhide HR2).lt _ rfl)).trans (B2.cells (unhide HR2)).2
  have ldd := World.block_lt_of_cell? _ _ dd0
  clear hb3 b4 r4 p4 HCK f4
  go_wp2_with fail
  rw [← eW4]
  refine (unhide HC).mono ?_
  rintro e W5 ⟨fa', L, k, a, er, rfl, hV, hB5, hn, hs⟩
  have HB5 : Hid (Below w.heap.size w W5) := (unhide HB4).trans (hB5.mono (unhide HB4).size)
  have r5 := (unhide HR4).keep (fun g hg => hB5.block g ((unhide HR4).lt g hg))
  have p5 := (unhide HP4).keep (fun g hg => hB5.block g ((unhide HP4).lt g hg))
  clear eW4 dd0 dd1 ldd d0 d1 ld
  rcases unhide HKC with ⟨hc1, rfl, rfl, rfl⟩ | ⟨hc1, hc2⟩
  case inr =>
    rcases hV with ⟨y, e1, rfl, rfl, _⟩ | ⟨e1, _⟩ | ⟨e1, _⟩
    · rw [hc1] at e1
      cases e1
      have hf0 := hn rfl
      subst hf0
      have heb : (yc == 0) = false := by simpa using hc2
      obtain ⟨g0, g1⟩ := B2.cells p5
      have lg := World.block_lt_of_cell? _ _ g0
      have HE : Hid (∀ o1 o2, Below w.heap.size w ((W5.alloc o1).alloc o2)) := fun o1 o2 => ((unhide HB5).alloc (unhide HB5).size o1).alloc (by have := (unhide HB5).size; simp; omega) o2
      clear hB5 hn hs r5 HC p5
      go_wp2_with fail
      go_ret
      exact ⟨rfl, unhide HE _ _⟩
    · rw [hc1] at e1; cases e1
    · rw [hc1] at e1; cases e1
  case inl =>
    rcases hV with ⟨y, e1, _⟩ | ⟨_, i', f', hf', rfl, rfl, her, hFn, hbefore⟩ | ⟨_, rfl, rfl, rfl, Ls, rfl, hLl, hFn⟩
    · rw [hc1] at e1; cases e1
    · have hf0 := hn rfl
      subst hf0
      have hpl := hFn.place
      obtain ⟨W6, eW6⟩ : ∃ W6, W6 = (W5.alloc (.cells #[.slice none 0 0, .slice none 0 0] 30)).alloc (.cells #[.int .i64 (i' : Int), .int .i64 a] 32) := ⟨_, rfl⟩
      have F6 : Below W5.heap.size W5 W6 := by rw [eW6]; exact ((Below.refl _ _).alloc (Nat.le_refl _) _).alloc (by simp) _
      have q3 : Ro W6 2 (.slice (some ⟨W5.heap.size, 0, none⟩) 1 1) 1 [.slice none 0 0, .slice none 0 0] := by
        rw [eW6]; exact (B2.new W5 _ _ _).fr (S := fun _ => False) ((Fr.refl _ _).alloc _) (fun _ _ e => e)
      have q4 : Ro W6 2 (.slice (some ⟨W5.heap.size + 1, 0, none⟩) 1 1) 1 [.int .i64 (i' : Int), .int .i64 a] := by
        rw [eW6]; exact B2.new' _ _ _ _ (by simp)
      have q1 := r5.keep (fun g hg => F6.block g (r5.lt g hg))
      have HQ1 := hide q1
      have HQ3 := hide q3
      have HQ4 := hide q4
      have HB6 : Hid (Below w.heap.size w W6) := (unhide HB5).trans (F6.mono (unhide HB5).size)
      have hi'N : i' < NF := by rw [← unhide hNF]; exact (List.getElem?_eq_some_iff.1 hf').1
      have HFN := hide hFn
      have HBF' := hide hbefore
      have HF' := hide hf'
      have HPL := hide hpl
      have heb : (er == 0) = false := by simpa using her
      clear hB5 hn hs r5 HC p5 F6 q1 q3 q4 hFn hbefore hf' hpl
      go_wp2_with fail
      rw [← eW6]
      clear eW6
      go_loopg [8] NF (fun gg t8 wi => ∃ (i : Nat), Hid (i + gg = NF) ∧ t8 = .int .i64 (i : Int) ∧ Hid (Below W6.heap.size W6 wi) ∧ Hid (i ≤ i'))
      case atStart => exact ⟨0, by unfold Hid; omega, rfl, Below.refl _ _, Nat.zero_le _⟩
      case round =>
        obtain ⟨i, hi, rfl, hB, hle⟩ := hrel
        have i0 : (0 : Int) ≤ (i : Int) := by omega
        have e1 := (unhide hB).cell (p := ⟨w.heap.size, 1, none⟩) ((unhide HQ1).lt _ rfl) |>.trans (B2.cells (unhide HQ1)).2
        have h0 := (unhide hB).cell (p := ⟨W5.heap.size, 0, none⟩) ((unhide HQ3).lt _ rfl) |>.trans (B2.cells (unhide HQ3)).1
        have p0 := (unhide hB).cell (p := ⟨W5.heap.size + 1, 0, none⟩) ((unhide HQ4).lt _ rfl) |>.trans (B2.cells (unhide HQ4)).1
        have p1 := (unhide hB).cell (p := ⟨W5.heap.size + 1, 1, none⟩) ((unhide HQ4).lt _ rfl) |>.trans (B2.cells (unhide HQ4)).2
        have lb := World.block_lt_of_cell? _ _ e1
        have lh := World.block_lt_of_cell? _ _ h0
        have lp := World.block_lt_of_cell? _ _ p0
        have HBw : Hid (Below w.heap.size w wr) := (unhide HB6).trans ((unhide hB).mono (unhide HB6).size)
        by_cases hlt : i < NF
        · have i1 : (i : Int) < (NF : Int) := by omega
          obtain ⟨f, hf⟩ : ∃ f, p.funcs[i]? = some f := ⟨_, List.getElem?_eq_getElem (by rw [unhide hNF]; exact hlt)⟩
          obtain ⟨gb, go, x, rfl, lgb, hx, cs⟩ := unhide HAT i f hf
          have k0 := (unhide HBw).cell (p := ⟨gb, go + i * 5 + 0, none⟩) lgb |>.trans (cs 0 _ rfl)
          have k1 := (unhide HBw).cell (p := ⟨gb, go + i * 5 + 1, none⟩) lgb |>.trans (cs 1 _ rfl)
          have k2 := (unhide HBw).cell (p := ⟨gb, go + i * 5 + 2, none⟩) lgb |>.trans (cs 2 _ rfl)
          have k3 := (unhide HBw).cell (p := ⟨gb, go + i * 5 + 3, none⟩) lgb |>.trans (cs 3 _ rfl)
          have k4 := (unhide HBw).cell (p := ⟨gb, go + i * 5 + 4, none⟩) lgb |>.trans (cs 4 _ rfl)
          rw [Nat.add_zero] at k0
          have lg := World.block_lt_of_cell? _ _ k0
          have hof := OkF.of hc1 hf
          have HOF := hide hof
          have HX := hide hx
          have HGU := hide (guess_any (w := wr) (hx.below (unhide HBw) (Nat.le_refl _)) hof)
          have HF := hide hf
          obtain ⟨nm, pr, lcl, cv, hv0⟩ := x
          simp only at k0 k1 k2 k3 k4 HGU
          have hcvs : ∃ a c, cv = .slice a f.code.length c := by obtain ⟨_, a, c, e, _⟩ := hx.2.2.2.1; exact ⟨a, c, e⟩
          have hhvs : ∃ a c, hv0 = .slice a f.hs.length c := by obtain ⟨_, a, c, e, _⟩ := hx.2.2.2.2; exact ⟨a, c, e⟩
          obtain ⟨ca3, cc3, rfl⟩ := hcvs
          obtain ⟨ha3, hc3, rfl⟩ := hhvs
          clear cs hx hof hf
          go_wp2_with fail
          refine (unhide HGU).mono ?_
          rintro e W7 ⟨v, l, rfl, hRl, hGu, hb7⟩
          have HGUR := hide hGu
          have HB7 : Hid (Below W6.heap.size W6 W7) := (unhide hB).trans (hb7.mono (unhide hB).size)
          have HB7w : Hid (Below w.heap.size w W7) := (unhide HBw).trans (hb7.mono (unhide HBw).size)
          have e1 := hb7.cell (p := ⟨w.heap.size, 1, none⟩) lb |>.trans e1
          have h0 := hb7.cell (p := ⟨W5.heap.size, 0, none⟩) lh |>.trans h0
          have p0 := hb7.cell (p := ⟨W5.heap.size + 1, 0, none⟩) lp |>.trans p0
          have p1 := hb7.cell (p := ⟨W5.heap.size + 1, 1, none⟩) lp |>.trans p1
          have k0 := hb7.cell (p := ⟨gb, go + i * 5, none⟩) lg |>.trans k0
          have k1 := hb7.cell (p := ⟨gb, go + i * 5 + 1, none⟩) lg |>.trans k1
          have k2 := hb7.cell (p := ⟨gb, go + i * 5 + 2, none⟩) lg |>.trans k2
          have k3 := hb7.cell (p := ⟨gb, go + i * 5 + 3, none⟩) lg |>.trans k3
          have k4 := hb7.cell (p := ⟨gb, go + i * 5 + 4, none⟩) lg |>.trans k4
          have lb := Nat.lt_of_lt_of_le lb hb7.size
          have lh := Nat.lt_of_lt_of_le lh hb7.size
          have lp := Nat.lt_of_lt_of_le lp hb7.size
          have lg := Nat.lt_of_lt_of_le lg hb7.size
          have HFA := hide (fitsAll_any (w := W7) ((unhide HX).below (unhide HB7w) (Nat.le_refl _)) (Rx.of_ro hRl) (unhide HOF) hGu.1 hGu.2.1)
          simp only at HFA
          have HRL := hide hRl
          obtain ⟨va, vcp, ev, _, _⟩ := hRl.shape
          obtain ⟨ln, hln⟩ : ∃ ln, Hid (l.length = ln) := ⟨_, rfl⟩
          rw [unhide hln] at ev
          subst ev
          clear HGU hRl hGu hb7
          go_wp2_with fail
          refine (unhide HFA).mono ?_
          rintro e W8 ⟨b, rfl, hbF, hb8⟩
          have HB8 : Hid (Below W6.heap.size W6 W8) := (unhide HB7).trans (hb8.mono (unhide HB7).size)
          have HB8w : Hid (Below w.heap.size w W8) := (unhide HB7w).trans (hb8.mono (unhide HB7w).size)
          have e1 := hb8.cell (p := ⟨w.heap.size, 1, none⟩) lb |>.trans e1
          have h0 := hb8.cell (p := ⟨W5.heap.size, 0, none⟩) lh |>.trans h0
          have p0 := hb8.cell (p := ⟨W5.heap.size + 1, 0, none⟩) lp |>.trans p0
          have p1 := hb8.cell (p := ⟨W5.heap.size + 1, 1, none⟩) lp |>.trans p1
          have k3 := hb8.cell (p := ⟨gb, go + i * 5 + 3, none⟩) lg |>.trans k3
          have lb := Nat.lt_of_lt_of_le lb hb8.size
          have lh := Nat.lt_of_lt_of_le lh hb8.size
          have lp := Nat.lt_of_lt_of_le lp hb8.size
          have lg := Nat.lt_of_lt_of_le lg hb8.size
          have HRL8 := hide ((unhide HRL).keep (fun g hg => hb8.block g ((unhide HRL).lt g hg)))
          have HBF := hide hbF
          clear hb8 HFA HRL hbF k0 k1 k2 k4
          by_cases hii : i = i'
          · subst hii
            have hff : f = f' := by have e2 := unhide HF; rw [unhide HF'] at e2; exact (Option.some.inj e2).symm
            subst hff
            have hbf : b = false := by
              cases b with
              | false => rfl
              | true => exact ((GuR.found (unhide HOF) (unhide HGUR) ((unhide HBF).1 rfl)).not (unhide HFN)).elim
            subst hbf
            obtain ⟨hor, ha0, ha1⟩ := unhide HPL
            obtain ⟨N, hN⟩ : ∃ N, Hid (f.code.length = N) := ⟨_, rfl⟩
            rw [unhide hN] at ha1 k3
            have HE := hide (fun n => Go.Proofs.YtbphddocgdihjaaDoor.Below.drewN (unhide HB8w) n)
            clear heb
            rcases hor with rfl | rfl
            · go_wp2_with fail
              go_quiet (fail)
              go_wp2_with fail
              go_ret
              exact ⟨rfl, unhide HE _⟩
            · go_wp2_with fail
              go_quiet (fail)
              go_wp2_with fail
              go_ret
              exact ⟨rfl, unhide HE _⟩
          · have hil : i < i' := by have := unhide hle; omega
            obtain ⟨l', hl'⟩ := unhide HBF' i f hil (unhide HF)
            have hbt : b = true := (unhide HBF).2 (GuR.fits (unhide HOF) (unhide HGUR) hl').1
            subst hbt
            have HLE : Hid (i + 1 ≤ i') := hil
            clear hl'
            go_wp2_with fail
            go_roundg (gk - 1)
            case measure => have := unhide hi; omega
            case rel => exact ⟨i + 1, by have := unhide hi; unfold Hid; omega, by go_num, HB8, HLE⟩
        · have i1 : ¬ (i : Int) < (NF : Int) := by omega
          exact absurd (Nat.lt_of_le_of_lt (unhide hle) hi'N) hlt
    · obtain ⟨hv, mv, rfl, vs, R1, R2, R3, R4, R5⟩ := hs _ rfl
      obtain ⟨ha, hcp, eh, _, _⟩ := R1.shape
      obtain ⟨ma, mcp, em, _, _⟩ := R3.shape
      rw [hLl, unhide hNF] at eh em
      have hNF1 : 0 < NF := by rw [← unhide hNF]; exact (ckF_none.1 hc1).2.1
      have hNF2 : NF ≤ 128 := by rw [← unhide hNF]; exact (ckF_none.1 hc1).2.2.1
      obtain ⟨hb, ho, hc', eh2, _, _, lhb, kh⟩ := R1.full (by rw [hLl, unhide hNF]; exact hNF1)
      rw [hLl, unhide hNF] at eh2
      rw [eh] at eh2
      cases eh2
      subst eh em
      obtain ⟨W6, eW6⟩ : ∃ W6, W6 = (W5.alloc (.cells #[.slice (some ⟨hb, ho, none⟩) NF hcp, .slice ma NF mcp] 30)).alloc (.cells #[.int .i64 0, .int .i64 0] 32) := ⟨_, rfl⟩
      have F6 : Below W5.heap.size W5 W6 := by rw [eW6]; exact ((Below.refl _ _).alloc (Nat.le_refl _) _).alloc (by simp) _
      have q3 : Ro W6 2 (.slice (some ⟨W5.heap.size, 0, none⟩) 1 1) 1 [.slice (some ⟨hb, ho, none⟩) NF hcp, .slice ma NF mcp] := by
        rw [eW6]; exact (B2.new W5 _ _ _).fr (S := fun _ => False) ((Fr.refl _ _).alloc _) (fun _ _ e => e)
      have q4 : Ro W6 2 (.slice (some ⟨W5.heap.size + 1, 0, none⟩) 1 1) 1 [.int .i64 0, .int .i64 0] := by
        rw [eW6]; exact B2.new' _ _ _ _ (by simp)
      have q1 := r5.keep (fun g hg => F6.block g (r5.lt g hg))
      have HQ1 := hide q1
      have HQ3 := hide q3
      have HQ4 := hide q4
      have HB6 : Hid (Below w.heap.size w W6) := (unhide HB5).trans (F6.mono (unhide HB5).size)
      have HKH : Hid (∀ j, j < NF → W6.cell? ⟨hb, ho + j, none⟩ = vs[j]?) := fun j hj => (F6.cell (p := ⟨hb, ho + j, none⟩) lhb).trans (kh j (by rw [hLl, unhide hNF]; omega))
      have HRU : Hid (∀ (i : Nat) (l : List Int) (u : Value), Ls[i]? = some l → vs[i]? = some u → Ro W6 1 u l.length (flt enN l)) := fun i l u h1 h2 => (R2 i l u h1 h2).1.keep (fun g hg => F6.block g ((R2 i l u h1 h2).1.lt g hg))
      have hvl := R1.1
      rw [hLl, unhide hNF, Nat.mul_one] at hvl
      have HVL := hide hvl
      have HLL := hide hLl
      have HFN := hide hFn
      have lhb6 : hb < W6.heap.size := by rw [eW6]; simp; omega
      clear hB5 hn hs r5 HC p5 F6 q1 q3 q4 hFn kh R1 R2 R3 R4 R5 hvl hLl
      go_wp2_with fail
      rw [← eW6]
      clear eW6 lhb
      go_loopg [8] NF (fun gg t8 wi => ∃ (i : Nat), Hid (i + gg = NF) ∧ t8 = .int .i64 (i : Int) ∧ Hid (Below W6.heap.size W6 wi))
      case atStart => exact ⟨0, by unfold Hid; omega, rfl, Below.refl _ _⟩
      case round =>
        obtain ⟨i, hi, rfl, hB⟩ := hrel
        have i0 : (0 : Int) ≤ (i : Int) := by omega
        have e1 := (unhide hB).cell (p := ⟨w.heap.size, 1, none⟩) ((unhide HQ1).lt _ rfl) |>.trans (B2.cells (unhide HQ1)).2
        have h0 := (unhide hB).cell (p := ⟨W5.heap.size, 0, none⟩) ((unhide HQ3).lt _ rfl) |>.trans (B2.cells (unhide HQ3)).1
        have p0 := (unhide hB).cell (p := ⟨W5.heap.size + 1, 0, none⟩) ((unhide HQ4).lt _ rfl) |>.trans (B2.cells (unhide HQ4)).1
        have p1 := (unhide hB).cell (p := ⟨W5.heap.size + 1, 1, none⟩) ((unhide HQ4).lt _ rfl) |>.trans (B2.cells (unhide HQ4)).2
        have lb := World.block_lt_of_cell? _ _ e1
        have lh := World.block_lt_of_cell? _ _ h0
        have lp := World.block_lt_of_cell? _ _ p0
        have HBw : Hid (Below w.heap.size w wr) := (unhide HB6).trans ((unhide hB).mono (unhide HB6).size)
        by_cases hlt : i < NF
        · have i1 : (i : Int) < (NF : Int) := by omega
          obtain ⟨f, hf⟩ : ∃ f, p.funcs[i]? = some f := ⟨_, List.getElem?_eq_getElem (by rw [unhide hNF]; exact hlt)⟩
          obtain ⟨gb, go, x, rfl, lgb, hx, cs⟩ := unhide HAT i f hf
          have k0 := (unhide HBw).cell (p := ⟨gb, go + i * 5 + 0, none⟩) lgb |>.trans (cs 0 _ rfl)
          have k1 := (unhide HBw).cell (p := ⟨gb, go + i * 5 + 1, none⟩) lgb |>.trans (cs 1 _ rfl)
          have k2 := (unhide HBw).cell (p := ⟨gb, go + i * 5 + 2, none⟩) lgb |>.trans (cs 2 _ rfl)
          have k3 := (unhide HBw).cell (p := ⟨gb, go + i * 5 + 3, none⟩) lgb |>.trans (cs 3 _ rfl)
          have k4 := (unhide HBw).cell (p := ⟨gb, go + i * 5 + 4, none⟩) lgb |>.trans (cs 4 _ rfl)
          rw [Nat.add_zero] at k0
          have lg := World.block_lt_of_cell? _ _ k0
          have hof := OkF.of hc1 hf
          have HOF := hide hof
          have HX := hide hx
          have HGU := hide (guess_any (w := wr) (hx.below (unhide HBw) (Nat.le_refl _)) hof)
          have HF := hide hf
          obtain ⟨nm, pr, lcl, cv, hv0⟩ := x
          simp only at k0 k1 k2 k3 k4 HGU
          have hcvs : ∃ a c, cv = .slice a f.code.length c := by obtain ⟨_, a, c, e, _⟩ := hx.2.2.2.1; exact ⟨a, c, e⟩
          have hhvs : ∃ a c, hv0 = .slice a f.hs.length c := by obtain ⟨_, a, c, e, _⟩ := hx.2.2.2.2; exact ⟨a, c, e⟩
          obtain ⟨ca3, cc3, rfl⟩ := hcvs
          obtain ⟨ha3, hc3, rfl⟩ := hhvs
          clear cs hx hof hf
          go_wp2_with fail
          refine (unhide HGU).mono ?_
          rintro e W7 ⟨v, l, rfl, hRl, hGu, hb7⟩
          have HGUR := hide hGu
          have HB7 : Hid (Below W6.heap.size W6 W7) := (unhide hB).trans (hb7.mono (unhide hB).size)
          have HB7w : Hid (Below w.heap.size w W7) := (unhide HBw).trans (hb7.mono (unhide HBw).size)
          have e1 := hb7.cell (p := ⟨w.heap.size, 1, none⟩) lb |>.trans e1
          have h0 := hb7.cell (p := ⟨W5.heap.size, 0, none⟩) lh |>.trans h0
          have p0 := hb7.cell (p := ⟨W5.heap.size + 1, 0, none⟩) lp |>.trans p0
          have p1 := hb7.cell (p := ⟨W5.heap.size + 1, 1, none⟩) lp |>.trans p1
          have k0 := hb7.cell (p := ⟨gb, go + i * 5, none⟩) lg |>.trans k0
          have k1 := hb7.cell (p := ⟨gb, go + i * 5 + 1, none⟩) lg |>.trans k1
          have k2 := hb7.cell (p := ⟨gb, go + i * 5 + 2, none⟩) lg |>.trans k2
          have k3 := hb7.cell (p := ⟨gb, go + i * 5 + 3, none⟩) lg |>.trans k3
          have k4 := hb7.cell (p := ⟨gb, go + i * 5 + 4, none⟩) lg |>.trans k4
          have lb := Nat.lt_of_lt_of_le lb hb7.size
          have lh := Nat.lt_of_lt_of_le lh hb7.size
          have lp := Nat.lt_of_lt_of_le lp hb7.size
          have lg := Nat.lt_of_lt_of_le lg hb7.size
          have HFA := hide (fitsAll_any (w := W7) ((unhide HX).below (unhide HB7w) (Nat.le_refl _)) (Rx.of_ro hRl) (unhide HOF) hGu.1 hGu.2.1)
          simp only at HFA
          have HRL := hide hRl
          obtain ⟨va, vcp, ev, _, _⟩ := hRl.shape
          obtain ⟨ln, hln⟩ : ∃ ln, Hid (l.length = ln) := ⟨_, rfl⟩
          rw [unhide hln] at ev
          subst ev
          clear HGU hRl hGu hb7
          go_wp2_with fail
          refine (unhide HFA).mono ?_
          rintro e W8 ⟨b, rfl, hbF, hb8⟩
          have HB8 : Hid (Below W6.heap.size W6 W8) := (unhide HB7).trans (hb8.mono (unhide HB7).size)
          have HB8w : Hid (Below w.heap.size w W8) := (unhide HB7w).trans (hb8.mono (unhide HB7w).size)
          have e1 := hb8.cell (p := ⟨w.heap.size, 1, none⟩) lb |>.trans e1
          have h0 := hb8.cell (p := ⟨W5.heap.size, 0, none⟩) lh |>.trans h0
          have p0 := hb8.cell (p := ⟨W5.heap.size + 1, 0, none⟩) lp |>.trans p0
          have p1 := hb8.cell (p := ⟨W5.heap.size + 1, 1, none⟩) lp |>.trans p1
          have k3 := hb8.cell (p := ⟨gb, go + i * 5 + 3, none⟩) lg |>.trans k3
          have lb := Nat.lt_of_lt_of_le lb hb8.size
          have lh := Nat.lt_of_lt_of_le lh hb8.size
          have lp := Nat.lt_of_lt_of_le lp hb8.size
          have lg := Nat.lt_of_lt_of_le lg hb8.size
          have HRL8 := hide ((unhide HRL).keep (fun g hg => hb8.block g ((unhide HRL).lt g hg)))
          have HBF := hide hbF
          clear hb8 HFA HRL hbF k0 k1 k2 k4
          obtain ⟨l', hl'⟩ : ∃ l', Ls[i]? = some l' := ⟨_, List.getElem?_eq_getElem (by rw [unhide HLL, unhide hNF]; exact hlt)⟩
          obtain ⟨u, hu⟩ : ∃ u, vs[i]? = some u := ⟨_, List.getElem?_eq_getElem (by rw [unhide HVL]; exact hlt)⟩
          have hfn := unhide HFN i f l' (unhide HF) hl'
          obtain ⟨hfa, hll⟩ := GuR.fits (unhide HOF) (unhide HGUR) hfn
          have hbt : b = true := (unhide HBF).2 hfa
          subst hbt
          subst hll
          have hru := unhide HRU i l u hl' hu
          have hruw := hru.keep (fun g hg => (unhide HB8).block g (hru.lt g hg))
          have u0 := ((unhide HB8).cell (p := ⟨hb, ho + i, none⟩) lhb6).trans ((unhide HKH i hlt).trans hu)
          have lu := World.block_lt_of_cell? _ _ u0
          obtain ⟨ua, uc, eu, _, hum⟩ := hruw.shape
          rw [unhide hln] at eu
          subst eu
          have HSN := hide (sameN_any (w := W8) (u := .slice ua ln uc) (v := .slice va ln vcp) (l := l) (Rx.of_ro hruw) (Rx.of_ro (unhide HRL8)))
          have i2 : ¬ (NF : Int) ≤ (i : Int) := by omega
          clear hfn hfa hru hruw hl' hu
          go_wp2_with fail
          refine (unhide HSN).mono ?_
          rintro e W9 ⟨rfl, kk, rfl⟩
          have HB9 : Hid (Below W6.heap.size W6 (W8.drewN kk)) := Go.Proofs.YtbphddocgdihjaaDoor.Below.drewN (unhide HB8) kk
          clear HSN
          go_wp2_with fail
          go_roundg (gk - 1)
          case measure => have := unhide hi; omega
          case rel => exact ⟨i + 1, by have := unhide hi; unfold Hid; omega, by go_num, HB9⟩
        · have i1 : ¬ (i : Int) < (NF : Int) := by omega
          go_wp2_with fail
          go_ret
          exact ⟨rfl, unhide HBw⟩
end Go.Proofs.YtbphddocgdihjaaDoor
