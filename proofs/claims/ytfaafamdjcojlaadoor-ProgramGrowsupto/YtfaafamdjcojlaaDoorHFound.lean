/-
  One handler more, out of its place.
-/
import Derived.Test.YtfaafamdjcojlaaDoorParts0
import Derived.Test.YtfaafamdjcojlaaDoorFunsLaw
namespace Go.Proofs.YtfaafamdjcojlaaDoor
open Go.RowKit
set_option linter.unusedVariables false
set_option linter.unusedSimpArgs false
set_option maxRecDepth 100000
noncomputable section
theorem snoc_set {T : Type} (l : List T) (a b : T) : (l ++ [a]).set l.length b = l ++ [b] := by
  rw [List.set_append_right _ _ (Nat.le_refl _), Nat.sub_self]; rfl
theorem step_appH {w : World} {ops : Array Oper} {o : Oper} {a : Act} {K : Act → World → Prop} {Q : Exit → Act → World → Prop} {E : Prop} (hgd : o.guard = none) (s x : Operand)
    (ho : o.op = .call { callee := .builtin .append, args := #[s, x], argTypes := #[45, 45] }) (v : Value) (l : List Hd) (n : Nat) (hn : l.length = n) (hs : a.eval s = v) (hr : Ro w 4 v n (flt enH l)) (ad : Addr) (c : Nat) (p : Hd) (hx : a.eval x = .slice (some ad) 1 c)
    (hnews : ∀ j u, (enH p)[j]? = some u → w.cell? (ad.add j) = some u) (hN : n ≤ 4398046511103)
    (h : ∀ v' w', Ro w' 4 v' (n + 1) (flt enH l ++ enH p) → w.grownBy w' v.ownBlock → (v'.ownBlock = v.ownBlock ∨ v'.ownBlock = some w.heap.size) → K (a.put o.dst v') w') :
    if Region.wanted o (yielded ops a.tmps) = true then Oper.wp Tryd.prog o a w K Q else E := by
  rw [if_pos (by simp [Region.wanted, hgd])]
  obtain ⟨i0, hi0, hz0, hz1, hz2⟩ := info_parts Tryd.info54
  obtain ⟨v', w', hrun, k2, k3, k5⟩ := Ro.app (P := Tryd.prog) 45 o.type 54 i0 _ 4 32 Tryd.underlying45 hi0 hz0 hz1 hz2 rfl (by decide) hr ad 1 c (enH p) rfl hnews (by simp [enH, Value.oneCell']) (by omega) (by unfold maxLen; omega) (by omega)
  unfold Oper.wp
  simp [execOp, ho, resolve, invoke, builtin, hs, hx, hrun, Result.andThen]
  exact h v' w' k2 k3 k5
/-- A handler is written over. -/
theorem OP.setH {B : Nat} {p : Pg} {xs : List Fv} {cv fv : Value} {wr : World} (h : OP B p xs cv fv wr) {k n hg ho hcap m : Nat} {f : Fc} {x : Fv} {q q' : Hd} (hx : xs[k]? = some x) (hf : p.funcs[k]? = some f) (hq : f.hs[n]? = some q) (e : x.hv = .slice (some ⟨hg, ho, none⟩) m hcap) :
    OP B { p with funcs := p.funcs.set k { f with hs := f.hs.set n q' } } xs cv fv ((((wr.setCell ⟨hg, ho + n * 4, none⟩ (.int .i64 q'.frm)).setCell ⟨hg, ho + n * 4 + 1, none⟩ (.int .i64 q'.to)).setCell ⟨hg, ho + n * 4 + 2, none⟩ (.int .i64 q'.target)).setCell ⟨hg, ho + n * 4 + 3, none⟩ (.int .i64 q'.height)) := by
  have hF := h.pt.rows k f x hf hx
  have hP := (hF.2.2.2.2.part zH (x' := q') (j := 0) (vs := enH q') e hq (by simp [enH]) (fun i hi => by
        rw [if_pos (by simp [enH]; omega)]; rfl)).1
  have hst : wr.setCells hg (ho + n * 4 + 0) (enH q') = (((wr.setCell ⟨hg, ho + n * 4, none⟩ (.int .i64 q'.frm)).setCell ⟨hg, ho + n * 4 + 1, none⟩ (.int .i64 q'.to)).setCell ⟨hg, ho + n * 4 + 2, none⟩ (.int .i64 q'.target)).setCell ⟨hg, ho + n * 4 + 3, none⟩ (.int .i64 q'.height) := rfl
  rw [hst] at hP
  have fr : ∀ (S : Nat → Prop), S hg → Fr S wr ((((wr.setCell ⟨hg, ho + n * 4, none⟩ (.int .i64 q'.frm)).setCell ⟨hg, ho + n * 4 + 1, none⟩ (.int .i64 q'.to)).setCell ⟨hg, ho + n * 4 + 2, none⟩ (.int .i64 q'.target)).setCell ⟨hg, ho + n * 4 + 3, none⟩ (.int .i64 q'.height)) := fun S hS =>
    ((((Fr.refl S wr).setCell ⟨hg, ho + n * 4, none⟩ (.inr hS) _).setCell ⟨hg, ho + n * 4 + 1, none⟩ (.inr hS) _).setCell ⟨hg, ho + n * 4 + 2, none⟩ (.inr hS) _).setCell ⟨hg, ho + n * 4 + 3, none⟩ (.inr hS) _
  have hne : ∀ b, x.cv.ownBlock = some b → b ≠ hg := fun b hb e2 => ((h.pt.each k k x x b hx hx).1 hb).1 (by rw [e, e2]; rfl)
  refine h.setRow hx hf (fr (fun b => x.cv.ownBlock = some b ∨ x.hv.ownBlock = some b) (.inr (by rw [e]; rfl))) ⟨hF.1, hF.2.1, hF.2.2.1, ?_, by simpa using hP⟩
  exact hF.2.2.2.1.fr (fr (fun b => b = hg) rfl) hne
set_option maxHeartbeats 12800000 in
theorem hfound_any {w : World} {B k : Nat} {p : Pg} {xs : List Fv} {cv fv : Value} {f : Fc} (h : OP B p xs cv fv w) (hB : B ≤ w.heap.size) (hB0 : 0 < B) (hgd : ckF p = none) (hok : OkP p) (hla : Laid w) (hfk : p.funcs[k]? = some f) (y : Int) :
    Calls Tryd.prog 18 #[.agg #[cv, fv], .int .i64 (k : Int), .int .i64 y] w fun e w' => e = .returned (.bool true) ∧ Below B w w' := by
  obtain ⟨s1, s2, s3, s4⟩ := small_of hgd
  have s4k := s4 k f hfk
  have hkl := (List.getElem?_eq_some_iff.1 hfk).1
  have hxl := h.pt.xl
  obtain ⟨x, hxk⟩ : ∃ x, xs[k]? = some x := ⟨_, List.getElem?_eq_getElem (by omega)⟩
  have hFk := h.pt.rows k f x hfk hxk
  obtain ⟨ia, ic, ha, hcq, rfl⟩ := hFk.fnv.parts
  obtain ⟨cc, cca, rfl, _, _⟩ := h.co.shape
  obtain ⟨fg, fo, fcc, rfl, hfcap, hfcap2, hgw, _⟩ := h.fo.full (by omega)
  have hfzz : ∀ o, w.frozen? ⟨fg, o, none⟩ = false := fun o => h.fo.free rfl o
  obtain ⟨_, _, _, e, _, _, _, hcs⟩ := (Rx.of_ro h.fo).elem zF hxk
  cases e
  have c3 := hcs 3 _ rfl
  have c4 := hcs 4 _ rfl
  have z4 := hfzz (fo + k * 5 + 4)
  clear hcs hfzz
  obtain ⟨NF, hNF⟩ : ∃ n, Hid (xs.length = n) := ⟨_, rfl⟩
  obtain ⟨NC, hNC⟩ : ∃ n, Hid (p.consts.length = n) := ⟨_, rfl⟩
  obtain ⟨CL, hCL⟩ : ∃ n, Hid (f.code.length = n) := ⟨_, rfl⟩
  obtain ⟨m, hML⟩ : ∃ n, Hid (f.hs.length = n) := ⟨_, rfl⟩
  have Hh := hide h
  have HFK := hide hFk
  rw [unhide hNC, unhide hNF] at Hh ⊢
  rw [unhide hCL, unhide hML] at c3 c4 HFK hxk s4k
  rw [unhide hNF] at hxl hfcap
  have hkN : k < NF := by omega
  have k0 : (0 : Int) ≤ (k : Int) := by omega
  have k1 : (k : Int) < (NF : Int) := by omega
  have HXL := hide hxl
  clear hxl
  have HGD := hide hgd
  have HOK := hide hok
  have HLA := hide hla
  have HFKK := hide hfk
  clear hla hok hgd h hFk
  by_cases hm : 32 ≤ m
  · have hm1 : decide ((32 : Int) ≤ (m : Int)) = true := decide_eq_true (by omega)
    go_enter Tryd.func18, Tryd.ntmps18
    go_wp2_with fail
    go_ret
    exact ⟨rfl, (Below.refl _ _).alloc hB _⟩
  · have hm1 : decide ((32 : Int) ≤ (m : Int)) = false := decide_eq_false (by omega)
    obtain ⟨wr, hwr⟩ : ∃ x, Hid ((w.alloc (.cells #[.slice cc NC cca, .slice (some ⟨fg, fo, none⟩) NF fcc] 25)).alloc (.cells #[.int .i64 0, .int .i64 (CL : Int), .int .i64 0, .int .i64 0] 54) = x) := ⟨_, rfl⟩
    have HBX : Hid (wr.heap[w.heap.size]? = some (.cells #[.slice cc NC cca, .slice (some ⟨fg, fo, none⟩) NF fcc] 25 (0, 0)) ∧ wr.heap[w.heap.size + 1]? = some (.cells #[.int .i64 0, .int .i64 (CL : Int), .int .i64 0, .int .i64 0] 54 (0, 0))) := by
      rw [← unhide hwr]
      have h1 := heap_alloc_new w (.cells #[.slice cc NC cca, .slice (some ⟨fg, fo, none⟩) NF fcc] 25)
      have h2 := heap_alloc_new (w.alloc (.cells #[.slice cc NC cca, .slice (some ⟨fg, fo, none⟩) NF fcc] 25)) (.cells #[.int .i64 0, .int .i64 (CL : Int), .int .i64 0, .int .i64 0] 54)
      rw [World.size_alloc] at h2
      exact ⟨(Below.heap_alloc _ _ _ (by simp)).trans h1, h2⟩
    have hbw : Below w.heap.size w wr := by rw [← unhide hwr]; exact ((Below.refl _ _).alloc (Nat.le_refl _) _).alloc (by simp) _
    have hsz : wr.heap.size = w.heap.size + 2 := by rw [← unhide hwr]; simp
    have HO := hide ((unhide Hh).keep hbw)
    have HLT : Hid (∀ b, inO (.slice cc NC cca) (.slice (some ⟨fg, fo, none⟩) NF fcc) xs b → b < w.heap.size) := fun b hb => ((unhide Hh).ge hb).2
    have HNQ : Hid (¬ (w.heap.size = fg ∨ (Value.slice ha m hcq).ownBlock = some (w.heap.size))) := fun e => by
      rcases e with e | e
      · omega
      · have := unhide HLT _ (.inr (.inr ⟨k, _, hxk, .inr e⟩)); omega
    have HNH : Hid (¬ (w.heap.size + 1 = fg ∨ (Value.slice ha m hcq).ownBlock = some (w.heap.size + 1))) := fun e => by
      rcases e with e | e
      · omega
      · have := unhide HLT _ (.inr (.inr ⟨k, _, hxk, .inr e⟩)); omega
    have HNF : Hid (¬ (Value.slice ha m hcq).ownBlock = some fg) := fun e => ((unhide Hh).pt.apart k _ fg hxk (.inr e)).2.2 rfl
    have HWB := hide (hbw.mono hB)
    have HBW : Hid (B ≤ wr.heap.size) := by unfold Hid; omega
    have HRo := hide (show Ro wr 4 (.slice ha m hcq) m (flt enH f.hs) by have := ((unhide HFK).2.2.2.2.fr (S := fun _ => False) (Fr.of_below hbw) (fun _ _ e => e)); rw [unhide hML] at this; exact this)
    have HFK0 := HFK
    have HFK := hide ((unhide HFK0).fr (S := fun _ => False) (Fr.of_below hbw) (fun _ _ e => e))
    clear HFK0
    have d3 := Below.heldIn hbw hgw c3
    have d4 := Below.heldIn hbw hgw c4
    have dz := (World.frozen?_of_block (hbw.block fg hgw)).trans z4
    have q1 : wr.cell? ⟨w.heap.size, 1, none⟩ = some (.slice (some ⟨fg, fo, none⟩) NF fcc) := by simp [World.cell?, (unhide HBX).1]
    have t0 : wr.cell? ⟨w.heap.size + 1, 0, none⟩ = some (.int .i64 0) := by simp [World.cell?, (unhide HBX).2]
    have t1 : wr.cell? ⟨w.heap.size + 1, 1, none⟩ = some (.int .i64 (CL : Int)) := by simp [World.cell?, (unhide HBX).2]
    have t2 : wr.cell? ⟨w.heap.size + 1, 2, none⟩ = some (.int .i64 0) := by simp [World.cell?, (unhide HBX).2]
    have t3 : wr.cell? ⟨w.heap.size + 1, 3, none⟩ = some (.int .i64 0) := by simp [World.cell?, (unhide HBX).2]
    have ql : w.heap.size < wr.heap.size := by omega
    have hl : w.heap.size + 1 < wr.heap.size := by omega
    have hgw' : fg < wr.heap.size := by omega
    go_enter Tryd.func18, Tryd.ntmps18
    have HSZ := hide hsz
    clear s1 s2 s3 s4 hsz
    go_upto_region 6 with fail
    rw [unhide hwr]
    clear c3 c4 z4 hgw
    have c3 := d3
    have c4 := d4
    have z4 := dz
    have hgw := hgw'
    clear d3 d4 dz hgw'
    have hSX : Fr (fun b => b = fg ∨ (Value.slice ha m hcq).ownBlock = some b) wr wr.drew := Fr.drawnW _
    go_cut [] from 10 (fun wc => ∃ (hg ho vcap : Nat), Hid (wc.heap[w.heap.size]? = some (.cells #[.slice cc NC cca, .slice (some ⟨fg, fo, none⟩) NF fcc] 25 (0, 0))) ∧ Hid (wc.heap[w.heap.size + 1]? = some (.cells #[.int .i64 0, .int .i64 (CL : Int), .int .i64 0, .int .i64 0] 54 (0, 0))) ∧ Hid (OP B { p with funcs := p.funcs.set k { f with hs := f.hs ++ [(⟨0, (CL : Int), 0, 0⟩ : Hd)] } } (xs.set k ⟨f.name, f.params, f.locals, .slice ia CL ic, .slice (some ⟨hg, ho, none⟩) (m + 1) vcap⟩) (.slice cc NC cca) (.slice (some ⟨fg, fo, none⟩) NF fcc) wc) ∧ Hid (Below B w wc) ∧ Hid (∀ b, inO (.slice cc NC cca) (.slice (some ⟨fg, fo, none⟩) NF fcc) (xs.set k ⟨f.name, f.params, f.locals, .slice ia CL ic, .slice (some ⟨hg, ho, none⟩) (m + 1) vcap⟩) b → b ≠ w.heap.size ∧ b ≠ w.heap.size + 1 ∧ B ≤ b))
    case first =>
      refine wp_region_held_drew (S := fun wx => Fr (fun b => b = fg ∨ (Value.slice ha m hcq).ownBlock = some b) wr wx) (by kernel_rfl) (Fr.drawnW _) (fun hHeld => ?_)
      refine wpAnyH_take (i := 0) (oi := _) (v := .pointer (some ⟨w.heap.size, 1, none⟩)) rfl (by kernel_rfl) (by kernel_rfl) (by kernel_rfl) (fun _ _ _ h => h) (Or.inl ⟨by rfl, (by intro w hSw; go_simp)⟩) (by assumption) ?_
      refine wpAnyH_take (i := 1) (oi := _) (v := .slice (some ⟨fg, fo, none⟩) NF fcc) rfl (by kernel_rfl) (by kernel_rfl) (by kernel_rfl) (fun _ _ _ h => h) (Or.inl ⟨by rfl, (by intro w hSw; have hs0 := Fr.heldIn hSw ql (unhide HNQ) q1; go_simp)⟩) (by assumption) ?_
      go_simp
      refine wpAnyH_take (i := 2) (oi := _) (v := .int .i64 (k : Int)) rfl (by kernel_rfl) (by kernel_rfl) (by kernel_rfl) (fun _ _ _ h => h) (Or.inl ⟨by rfl, (by intro w hSw; go_simp)⟩) (by assumption) ?_
      refine wpAnyH_take (i := 3) (oi := _) (v := .pointer (some ⟨w.heap.size, 1, none⟩)) rfl (by kernel_rfl) (by kernel_rfl) (by kernel_rfl) (fun _ _ _ h => h) (Or.inl ⟨by rfl, (by intro w hSw; go_simp)⟩) (by assumption) ?_
      refine wpAnyH_take (i := 4) (oi := _) (v := .slice (some ⟨fg, fo, none⟩) NF fcc) rfl (by kernel_rfl) (by kernel_rfl) (by kernel_rfl) (fun _ _ _ h => h) (Or.inl ⟨by rfl, (by intro w hSw; have hs0 := Fr.heldIn hSw ql (unhide HNQ) q1; go_simp)⟩) (by assumption) ?_
      go_simp
      refine wpAnyH_take (i := 5) (oi := _) (v := .int .i64 (k : Int)) rfl (by kernel_rfl) (by kernel_rfl) (by kernel_rfl) (fun _ _ _ h => h) (Or.inl ⟨by rfl, (by intro w hSw; go_simp)⟩) (by assumption) ?_
      refine wpAnyH_take (i := 6) (oi := _) (v := .pointer (some ⟨fg, fo + k * 5, none⟩)) rfl (by kernel_rfl) (by kernel_rfl) (by kernel_rfl) (fun _ _ _ h => h) (Or.inl ⟨by rfl, (by intro w hSw; go_simp)⟩) (by assumption) ?_
      go_simp
      refine wpAnyH_take (i := 7) (oi := _) (v := .pointer (some ⟨fg, fo + k * 5 + 4, none⟩)) rfl (by kernel_rfl) (by kernel_rfl) (by kernel_rfl) (fun _ _ _ h => h) (Or.inl ⟨by rfl, (by intro w hSw; go_simp)⟩) (by assumption) ?_
      go_simp
      refine wpAnyH_take (i := 9) (oi := _) (v := .agg #[.int .i64 0, .int .i64 (CL : Int), .int .i64 0, .int .i64 0]) rfl (by kernel_rfl) (by kernel_rfl) (by kernel_rfl) (fun _ _ _ h => h) (Or.inl ⟨by rfl, (by intro w hSw; have hs0 := Fr.heldIn hSw hl (unhide HNH) t0; have hs1 := Fr.heldIn hSw hl (unhide HNH) t1; have hs2 := Fr.heldIn hSw hl (unhide HNH) t2; have hs3 := Fr.heldIn hSw hl (unhide HNH) t3; go_simp)⟩) (by assumption) ?_
      go_simp
      refine wpAnyH_ready (rs := [8, 10]) (by kernel_rfl) (by simp) ?_
      refine AllReadyH.cons (o := _) rfl (fun K hK => ?_) (AllReadyH.cons (o := _) rfl (fun K hK => ?_) AllReadyH.nil)
      · go_simp
        refine hK.out _ _ (by assumption) (fun hHeld8x => ?_)
        clear hK K
        refine wpAnyH_ready (rs := [10]) (by kernel_rfl) (by simp) ?_
        refine AllReadyH.cons (o := _) rfl (fun K hK => ?_) AllReadyH.nil
        go_simp
        refine hK.out _ _ ((Fr.of_below ((Below.refl _ _).alloc (Nat.le_refl _) _)).drew) (fun hHeld10x => ?_)
        clear hK K
        refine wpAnyH_ready (rs := [11]) (by kernel_rfl) (by simp) ?_
        refine AllReadyH.cons (o := _) rfl (fun K hK => ?_) AllReadyH.nil
        refine step_appH rfl _ _ rfl (.slice ha m hcq) f.hs m (unhide hML) rfl ((unhide HRo).keep (fun g hg => Below.heap_alloc _ _ _ ((unhide HRo).lt g hg))) ⟨wr.heap.size, 0, none⟩ 1 ⟨0, (CL : Int), 0, 0⟩ rfl (by exact new_cells wr _ 54) (by omega) ?_
        intro v' w5 hr5 hg5 hat5
        obtain ⟨hg, ho, vcap, rfl, hvc, hvm, hgl5, _⟩ := hr5.full (by omega)
        have hg5' : (wr.alloc (.cells #[.int .i64 0, .int .i64 (CL : Int), .int .i64 0, .int .i64 0] 54)).grownBy w5 (Value.ownBlock _) := ⟨hg5.os, hg5.tape, hg5.output, hg5.size, hg5.block⟩
        have f5 : Fr (fun b => (Value.slice ha m hcq).ownBlock = some b) wr w5 := ((Fr.refl _ wr).alloc _).grown hg5' (fun k e => .inr e)
        have hat6 : hg = hg ∧ ((Value.slice ha m hcq).ownBlock = some hg ∨ wr.heap.size ≤ hg) := ⟨rfl, by
          rcases hat5 with e | e
          · left; exact e.symm
          · right; cases e; simp⟩
        have hfg5 : ¬ (Value.slice ha m hcq).ownBlock = some fg := unhide HNF
        have hOn := (unhide HO).setF (w5 := w5) (x' := ⟨f.name, f.params, f.locals, .slice ia CL ic, .slice (some ⟨hg, ho, none⟩) (m + 1) vcap⟩) (f' := { f with hs := f.hs ++ [⟨0, (CL : Int), 0, 0⟩] }) (vs := [.slice (some ⟨hg, ho, none⟩) (m + 1) vcap]) (j := 4) rfl hxk hfk (f5.mono (fun b _ e => .inr e)) ⟨rfl, rfl, rfl, by
            have := (unhide HFK).2.2.2.1.fr f5 (fun b hb e => ((unhide HO).pt.each k k _ _ b hxk hxk).1 hb |>.1 e)
            exact this, by
            rw [show (f.hs ++ [(⟨0, (CL : Int), 0, 0⟩ : Hd)]).length = m + 1 by rw [List.length_append, unhide hML]; rfl, flt_append, flt_one]; exact hr5⟩ (fun b hb => by
            rcases hb with hb | hb
            · exact .inl (.inl hb)
            · have hbg : hg = b := Option.some.inj hb
              subst hbg
              rcases hat6.2 with e | e
              · exact .inl (.inr e)
              · exact .inr e) (fun b hb e => by
            have hbg : hg = b := Option.some.inj e
            subst hbg
            rcases hat6.2 with e | e
            · exact ((unhide HO).pt.each k k _ _ _ hxk hxk).1 hb |>.1 e
            · have h9 : hg < wr.heap.size := (unhide HO).pt.lt hxk (.inl hb)
              omega) (unhide HBW) (by simp) (fun i hi => by
            match i, hi with
            | 0, _ => rfl
            | 1, _ => rfl
            | 2, _ => rfl
            | 3, _ => rfl
            | 4, _ => rfl)
        have c45 : w5.cell? ⟨fg, fo + k * 5 + 4, none⟩ = some (.slice ha m hcq) := Fr.heldIn f5 hgw (fun e => unhide HNF e) c4
        have z45 : w5.frozen? ⟨fg, fo + k * 5 + 4, none⟩ = false := (World.frozen?_of_block (f5.block fg hgw (fun e => unhide HNF e))).trans z4
        have hgw5 := Nat.lt_of_lt_of_le hgw f5.size
        have HON := hide hOn
        have HF5 := hide f5
        have HAT := hide hat6.2
        clear hr5 hg5 hg5' hat5 hat6 hOn hfg5
        refine hK.out _ _ ((unhide HF5).mono (fun b _ e => .inr e)) (fun hHeld11x => ?_)
        clear hK K
        refine wpAnyH_take (i := 12) (oi := _) (v := .pointer (some ⟨fg, fo + k * 5, none⟩)) rfl (by kernel_rfl) (by kernel_rfl) (by kernel_rfl) (fun _ _ _ h => h) (Or.inl ⟨by rfl, (by intro w hSw; go_simp)⟩) (by assumption) ?_
        go_simp
        refine wpAnyH_take (i := 13) (oi := _) (v := .pointer (some ⟨fg, fo + k * 5 + 4, none⟩)) rfl (by kernel_rfl) (by kernel_rfl) (by kernel_rfl) (fun _ _ _ h => h) (Or.inl ⟨by rfl, (by intro w hSw; go_simp)⟩) (by assumption) ?_
        go_simp
        refine wpAnyH_ready (rs := [14]) (by kernel_rfl) (by simp) ?_
        refine AllReadyH.cons (o := _) rfl (fun K hK => ?_) AllReadyH.nil
        go_simp
        refine hK.out _ _ (((unhide HF5).mono (fun b _ e => .inr e)).setCell ⟨fg, fo + k * 5 + 4, none⟩ (.inr (.inl rfl)) _) (fun hHeld14x => ?_)
        clear hK K
        refine wpAnyH_done (by kernel_rfl) ?_ _
        go_wp2_with fail
        go_meet
        case rel =>
          have fA : Fr (fun b => b = fg ∨ (Value.slice ha m hcq).ownBlock = some b) wr (w5.setCell ⟨fg, fo + k * 5 + 4, none⟩ (.slice (some ⟨hg, ho, none⟩) (m + 1) vcap)) := ((unhide HF5).mono (fun b _ e => .inr e)).setCell ⟨fg, fo + k * 5 + 4, none⟩ (.inr (.inl rfl)) _
          have hs5 := (unhide HF5).size
          refine ⟨hg, ho, vcap, ?_, ?_, ?_, ?_, ?_⟩
          · exact (fA.block _ ql (unhide HNQ)).trans (unhide HBX).1
          · exact (fA.block _ hl (unhide HNH)).trans (unhide HBX).2
          · exact unhide HON
          · refine (unhide HWB).trans (fA.below (unhide HBW) (fun b hb e => ?_))
            rcases e with e | e
            · have := (unhide HO).fb fg rfl; omega
            · have := ((unhide HO).pt.apart k _ b hxk (.inr e)).1; omega
          · intro b hb
            have hge := ((unhide HON).ge hb).1
            rcases hb with hb | hb | ⟨i, xi, hxi, hb⟩
            · have := unhide HLT b (.inl hb); exact ⟨by omega, by omega, hge⟩
            · have := unhide HLT b (.inr (.inl hb)); exact ⟨by omega, by omega, hge⟩
            · by_cases q : k = i
              · subst q
                rw [List.getElem?_set_self (List.getElem?_eq_some_iff.1 hxk).1] at hxi
                cases hxi
                rcases hb with hb | hb
                · have := unhide HLT b (.inr (.inr ⟨k, _, hxk, .inl hb⟩)); exact ⟨by omega, by omega, hge⟩
                · have hbg : hg = b := Option.some.inj hb
                  subst hbg
                  rcases unhide HAT with e | e
                  · have := unhide HLT _ (.inr (.inr ⟨k, _, hxk, .inr e⟩)); exact ⟨by omega, by omega, hge⟩
                  · have := unhide HSZ; exact ⟨by omega, by omega, hge⟩
              · rw [List.getElem?_set_ne q] at hxi
                have := unhide HLT b (.inr (.inr ⟨i, xi, hxi, hb⟩)); exact ⟨by omega, by omega, hge⟩
      · go_simp
        refine hK.out _ _ ((Fr.of_below ((Below.refl _ _).alloc (Nat.le_refl _) _)).drew) (fun hHeld10x => ?_)
        clear hK K
        refine wpAnyH_ready (rs := [8]) (by kernel_rfl) (by simp) ?_
        refine AllReadyH.cons (o := _) rfl (fun K hK => ?_) AllReadyH.nil
        go_simp
        refine hK.out _ _ (by assumption) (fun hHeld8x => ?_)
        clear hK K
        refine wpAnyH_ready (rs := [11]) (by kernel_rfl) (by simp) ?_
        refine AllReadyH.cons (o := _) rfl (fun K hK => ?_) AllReadyH.nil
        refine step_appH rfl _ _ rfl (.slice ha m hcq) f.hs m (unhide hML) rfl ((unhide HRo).keep (fun g hg => Below.heap_alloc _ _ _ ((unhide HRo).lt g hg))) ⟨wr.heap.size, 0, none⟩ 1 ⟨0, (CL : Int), 0, 0⟩ rfl (by exact new_cells wr _ 54) (by omega) ?_
        intro v' w5 hr5 hg5 hat5
        obtain ⟨hg, ho, vcap, rfl, hvc, hvm, hgl5, _⟩ := hr5.full (by omega)
        have hg5' : (wr.alloc (.cells #[.int .i64 0, .int .i64 (CL : Int), .int .i64 0, .int .i64 0] 54)).grownBy w5 (Value.ownBlock _) := ⟨hg5.os, hg5.tape, hg5.output, hg5.size, hg5.block⟩
        have f5 : Fr (fun b => (Value.slice ha m hcq).ownBlock = some b) wr w5 := ((Fr.refl _ wr).alloc _).grown hg5' (fun k e => .inr e)
        have hat6 : hg = hg ∧ ((Value.slice ha m hcq).ownBlock = some hg ∨ wr.heap.size ≤ hg) := ⟨rfl, by
          rcases hat5 with e | e
          · left; exact e.symm
          · right; cases e; simp⟩
        have hfg5 : ¬ (Value.slice ha m hcq).ownBlock = some fg := unhide HNF
        have hOn := (unhide HO).setF (w5 := w5) (x' := ⟨f.name, f.params, f.locals, .slice ia CL ic, .slice (some ⟨hg, ho, none⟩) (m + 1) vcap⟩) (f' := { f with hs := f.hs ++ [⟨0, (CL : Int), 0, 0⟩] }) (vs := [.slice (some ⟨hg, ho, none⟩) (m + 1) vcap]) (j := 4) rfl hxk hfk (f5.mono (fun b _ e => .inr e)) ⟨rfl, rfl, rfl, by
            have := (unhide HFK).2.2.2.1.fr f5 (fun b hb e => ((unhide HO).pt.each k k _ _ b hxk hxk).1 hb |>.1 e)
            exact this, by
            rw [show (f.hs ++ [(⟨0, (CL : Int), 0, 0⟩ : Hd)]).length = m + 1 by rw [List.length_append, unhide hML]; rfl, flt_append, flt_one]; exact hr5⟩ (fun b hb => by
            rcases hb with hb | hb
            · exact .inl (.inl hb)
            · have hbg : hg = b := Option.some.inj hb
              subst hbg
              rcases hat6.2 with e | e
              · exact .inl (.inr e)
              · exact .inr e) (fun b hb e => by
            have hbg : hg = b := Option.some.inj e
            subst hbg
            rcases hat6.2 with e | e
            · exact ((unhide HO).pt.each k k _ _ _ hxk hxk).1 hb |>.1 e
            · have h9 : hg < wr.heap.size := (unhide HO).pt.lt hxk (.inl hb)
              omega) (unhide HBW) (by simp) (fun i hi => by
            match i, hi with
            | 0, _ => rfl
            | 1, _ => rfl
            | 2, _ => rfl
            | 3, _ => rfl
            | 4, _ => rfl)
        have c45 : w5.cell? ⟨fg, fo + k * 5 + 4, none⟩ = some (.slice ha m hcq) := Fr.heldIn f5 hgw (fun e => unhide HNF e) c4
        have z45 : w5.frozen? ⟨fg, fo + k * 5 + 4, none⟩ = false := (World.frozen?_of_block (f5.block fg hgw (fun e => unhide HNF e))).trans z4
        have hgw5 := Nat.lt_of_lt_of_le hgw f5.size
        have HON := hide hOn
        have HF5 := hide f5
        have HAT := hide hat6.2
        clear hr5 hg5 hg5' hat5 hat6 hOn hfg5
        refine hK.out _ _ ((unhide HF5).mono (fun b _ e => .inr e)) (fun hHeld11x => ?_)
        clear hK K
        refine wpAnyH_take (i := 12) (oi := _) (v := .pointer (some ⟨fg, fo + k * 5, none⟩)) rfl (by kernel_rfl) (by kernel_rfl) (by kernel_rfl) (fun _ _ _ h => h) (Or.inl ⟨by rfl, (by intro w hSw; go_simp)⟩) (by assumption) ?_
        go_simp
        refine wpAnyH_take (i := 13) (oi := _) (v := .pointer (some ⟨fg, fo + k * 5 + 4, none⟩)) rfl (by kernel_rfl) (by kernel_rfl) (by kernel_rfl) (fun _ _ _ h => h) (Or.inl ⟨by rfl, (by intro w hSw; go_simp)⟩) (by assumption) ?_
        go_simp
        refine wpAnyH_ready (rs := [14]) (by kernel_rfl) (by simp) ?_
        refine AllReadyH.cons (o := _) rfl (fun K hK => ?_) AllReadyH.nil
        go_simp
        refine hK.out _ _ (((unhide HF5).mono (fun b _ e => .inr e)).setCell ⟨fg, fo + k * 5 + 4, none⟩ (.inr (.inl rfl)) _) (fun hHeld14x => ?_)
        clear hK K
        refine wpAnyH_done (by kernel_rfl) ?_ _
        go_wp2_with fail
        go_meet
        case rel =>
          have fA : Fr (fun b => b = fg ∨ (Value.slice ha m hcq).ownBlock = some b) wr (w5.setCell ⟨fg, fo + k * 5 + 4, none⟩ (.slice (some ⟨hg, ho, none⟩) (m + 1) vcap)) := ((unhide HF5).mono (fun b _ e => .inr e)).setCell ⟨fg, fo + k * 5 + 4, none⟩ (.inr (.inl rfl)) _
          have hs5 := (unhide HF5).size
          refine ⟨hg, ho, vcap, ?_, ?_, ?_, ?_, ?_⟩
          · exact (fA.block _ ql (unhide HNQ)).trans (unhide HBX).1
          · exact (fA.block _ hl (unhide HNH)).trans (unhide HBX).2
          · exact unhide HON
          · refine (unhide HWB).trans (fA.below (unhide HBW) (fun b hb e => ?_))
            rcases e with e | e
            · have := (unhide HO).fb fg rfl; omega
            · have := ((unhide HO).pt.apart k _ b hxk (.inr e)).1; omega
          · intro b hb
            have hge := ((unhide HON).ge hb).1
            rcases hb with hb | hb | ⟨i, xi, hxi, hb⟩
            · have := unhide HLT b (.inl hb); exact ⟨by omega, by omega, hge⟩
            · have := unhide HLT b (.inr (.inl hb)); exact ⟨by omega, by omega, hge⟩
            · by_cases q : k = i
              · subst q
                rw [List.getElem?_set_self (List.getElem?_eq_some_iff.1 hxk).1] at hxi
                cases hxi
                rcases hb with hb | hb
                · have := unhide HLT b (.inr (.inr ⟨k, _, hxk, .inl hb⟩)); exact ⟨by omega, by omega, hge⟩
                · have hbg : hg = b := Option.some.inj hb
                  subst hbg
                  rcases unhide HAT with e | e
                  · have := unhide HLT _ (.inr (.inr ⟨k, _, hxk, .inr e⟩)); exact ⟨by omega, by omega, hge⟩
                  · have := unhide HSZ; exact ⟨by omega, by omega, hge⟩
              · rw [List.getElem?_set_ne q] at hxi
                have := unhide HLT b (.inr (.inr ⟨i, xi, hxi, hb⟩)); exact ⟨by omega, by omega, hge⟩
    case rest =>
      obtain ⟨hg, ho, vcap, HB1, HB2, HO1, HW1, HN1⟩ := hcut
      have hmlt : f.hs.length < 32 := by rw [unhide hML]; omega
      have hfit : fitB ⟨0, (CL : Int), 0, 0⟩ f.code.length = true := by
        unfold fitB
        rw [unhide hCL]
        exact decide_eq_true (by simp only; omega)
      have HP1 := hide (han_more (unhide HGD) (unhide HFKK) hmlt hfit)
      have HOK1 : Hid (OkP { p with funcs := p.funcs.set k { f with hs := f.hs ++ [(⟨0, (CL : Int), 0, 0⟩ : Hd)] } }) := okp_setF (unhide HOK) (by have := ((unhide HOK).2 k f (unhide HFKK)).1; exact this) ((unhide HOK).2 k f (unhide HFKK)).2
      have hlc : Laid wc := Below.heldIn (unhide HW1) hB0 (unhide HLA)
      have HCP := hide (cpP_any (unhide HO1).pgv (by have := (small_of (unhide HP1)).2.2.1; omega) (by have := (small_of (unhide HP1)).1; omega) (fun i g hg => by have := (small_of (unhide HP1)).2.2.2 i g hg; omega))
      have q0c : wc.cell? ⟨w.heap.size, 0, none⟩ = some (.slice cc NC cca) := by simp [World.cell?, unhide HB1]
      have q1c : wc.cell? ⟨w.heap.size, 1, none⟩ = some (.slice (some ⟨fg, fo, none⟩) NF fcc) := by simp [World.cell?, unhide HB1]
      have qlc : w.heap.size < wc.heap.size := (Array.getElem?_eq_some_iff.1 (unhide HB1)).1
      have HQLC := hide qlc
      have HHLC : Hid (w.heap.size + 1 < wc.heap.size) := (Array.getElem?_eq_some_iff.1 (unhide HB2)).1
      have HXK := hide hxk
      clear c3 c4 z4 q1 t0 t1 t2 t3 ql hl hgw HO HNQ HNH HNF HWB HBW HRo HFK HLT hxk hmlt hfit hfk hSX hbw hwr HBX hkl
      go_wp2_with fail
      refine (unhide HCP).mono ?_
      clear HCP
      rintro e w7 ⟨cv7, fv7, xs7, rfl, hO7, hb7⟩
      have HFO := hide (found_any 0 0 0 hO7.pgv (unhide HOK1) (hlc.below hb7))
      rw [fouV_none (unhide HP1)] at HFO
      clear hO7
      go_wp2_with fail
      refine (unhide HFO).mono ?_
      clear HFO
      rintro e w8 ⟨rfl, hb8⟩
      have h18 : Below wc.heap.size wc w8 := hb7.trans (hb8.mono hb7.size)
      have HO8 := hide ((unhide HO1).keep h18)
      have hQ8 := (h18.block _ (unhide HQLC)).trans (unhide HB1)
      have hH8 := (h18.block _ (unhide HHLC)).trans (unhide HB2)
      have hl8 : Laid w8 := hlc.below h18
      have hH8l : w.heap.size + 1 < w8.heap.size := (Array.getElem?_eq_some_iff.1 hH8).1
      have HW8 : Hid (Below B w w8) := (unhide HW1).trans (h18.mono (by have := unhide HQLC; omega))
      have v0 : w8.cell? ⟨w.heap.size + 1, 0, none⟩ = some (.int .i64 0) := by simp [World.cell?, hH8]
      have v1 : w8.cell? ⟨w.heap.size + 1, 1, none⟩ = some (.int .i64 (CL : Int)) := by simp [World.cell?, hH8]
      have v2 : w8.cell? ⟨w.heap.size + 1, 2, none⟩ = some (.int .i64 0) := by simp [World.cell?, hH8]
      have v3 : w8.cell? ⟨w.heap.size + 1, 3, none⟩ = some (.int .i64 0) := by simp [World.cell?, hH8]
      have vf : ∀ o, w8.frozen? ⟨w.heap.size + 1, o, none⟩ = false := fun o => by simp [World.frozen?, hH8]
      have vf0 := vf 0
      have vf1 := vf 1
      have vf2 := vf 2
      have vf3 := vf 3
      have HQ8 := hide hQ8
      have HH8 := hide hH8
      have HL8 := hide hl8
      -- what is found behind the last store
      have HST : Hid (∀ (wx : World) (h' : Hd), Below B w wx → fitB h' (CL : Int) = false → Laid wx → OP B { p with funcs := p.funcs.set k { f with hs := f.hs ++ [h'] } } (xs.set k (⟨f.name, f.params, f.locals, .slice ia CL ic, .slice (some ⟨hg, ho, none⟩) (m + 1) vcap⟩ : Fv)) (.slice cc NC cca) (.slice (some ⟨fg, fo, none⟩) NF fcc) wx → Calls Tryd.prog 16 #[.agg #[.slice cc NC cca, .slice (some ⟨fg, fo, none⟩) NF fcc], .int .i64 8, .int .i64 (k : Int), .int .i64 (m : Int)] wx fun ev w' => ev = .returned (.bool true) ∧ Below B w w') := by
        intro wx h' hbx hf hlx ho
        have hb := han_bad (unhide HGD) (unhide HFKK) (h := h') (by rw [unhide hML]; omega) (by rw [unhide hCL]; exact hf)
        rw [unhide hML] at hb
        have := found_any 8 (k : Int) (m : Int) ho.pgv (okp_setF (unhide HOK) (by have := ((unhide HOK).2 k f (unhide HFKK)).1; exact this) ((unhide HOK).2 k f (unhide HFKK)).2) hlx
        rw [fouV_some hb] at this
        exact this.mono fun ev w' ⟨e1, e2⟩ => ⟨e1, hbx.trans (e2.mono (Nat.le_trans hB hbx.size))⟩
      have HP6 := hide (pick_any w8 y 6 (by omega) (by omega))
      have hp6 := pick_lt y (n := 6) (by omega)
      obtain ⟨D, hD⟩ : ∃ D : Int, ((pick y 6 : Nat) : Int) = D := ⟨_, rfl⟩
      rw [hD] at HP6
      have hD6 : D = 0 ∨ D = 1 ∨ D = 2 ∨ D = 3 ∨ D = 4 ∨ D = 5 := by omega
      have hxkl : k < xs.length := by rw [unhide hNF]; exact hkN
      clear q0c q1c qlc hlc hb7 hb8 hQ8 hH8 hl8 vf h18 HB1 HB2 HO1 HW1
      go_wp2_with fail
      refine (unhide HP6).mono ?_
      rintro e wq ⟨rfl, ew⟩
      have ew' := ew.symm
      subst ew'
      have hCL2 : CL ≤ 2000 := by omega
      rcases hD6 with rfl | rfl | rfl | rfl | rfl | rfl
      · obtain ⟨W9, hW9⟩ : ∃ x, Hid (w8.setCell ⟨w.heap.size + 1, 0, none⟩ (.int .i64 (-1)) = x) := ⟨_, rfl⟩
        have hF9 : Fr (fun b => b = w.heap.size + 1) w8 W9 := by rw [← unhide hW9]; exact (Fr.refl (fun b => b = w.heap.size + 1) w8).setCell ⟨w.heap.size + 1, 0, none⟩ (.inr rfl) _
        have hO9 := (unhide HO8).fr hF9 (fun b hb (e : b = w.heap.size + 1) => (unhide HN1 b hb).2.1 e)
        have hQ9 := (hF9.block w.heap.size (by omega) (by omega)).trans (unhide HQ8)
        have hH9 : W9.heap[w.heap.size + 1]? = some (.cells #[.int .i64 (-1), .int .i64 ((CL : Int)), .int .i64 (0), .int .i64 (0)] 54 (0, 0)) := by rw [← unhide hW9, setCell_block (unhide HH8)]; rfl
        have hxn : (xs.set k (⟨f.name, f.params, f.locals, .slice ia CL ic, .slice (some ⟨hg, ho, none⟩) (m + 1) vcap⟩ : Fv))[k]? = some (⟨f.name, f.params, f.locals, .slice ia CL ic, .slice (some ⟨hg, ho, none⟩) (m + 1) vcap⟩ : Fv) := List.getElem?_set_self hxkl
        have hfn : (p.funcs.set k { f with hs := f.hs ++ [(⟨0, (CL : Int), 0, 0⟩ : Hd)] })[k]? = some { f with hs := f.hs ++ [(⟨0, (CL : Int), 0, 0⟩ : Hd)] } := List.getElem?_set_self (List.getElem?_eq_some_iff.1 (unhide HFKK)).1
        have hap := hO9.pt.apart k _ hg hxn (.inr rfl)
        have hin : inO (.slice cc NC cca) (.slice (some ⟨fg, fo, none⟩) NF fcc) (xs.set k (⟨f.name, f.params, f.locals, .slice ia CL ic, .slice (some ⟨hg, ho, none⟩) (m + 1) vcap⟩ : Fv)) hg := .inr (.inr ⟨k, _, hxn, .inr rfl⟩)
        have hgQ : hg ≠ w.heap.size := (unhide HN1 hg hin).1
        have hgH : hg ≠ w.heap.size + 1 := (unhide HN1 hg hin).2.1
        have hgB : B ≤ hg := (unhide HN1 hg hin).2.2
        have hgF : hg ≠ fg := fun e => hap.2.2 (by rw [e]; rfl)
        have y1 : W9.cell? ⟨w.heap.size, 1, none⟩ = some (.slice (some ⟨fg, fo, none⟩) NF fcc) := by simp [World.cell?, hQ9]
        have y0 : W9.cell? ⟨w.heap.size, 0, none⟩ = some (.slice cc NC cca) := by simp [World.cell?, hQ9]
        have yl : w.heap.size < W9.heap.size := (Array.getElem?_eq_some_iff.1 hQ9).1
        have u0 : W9.cell? ⟨w.heap.size + 1, 0, none⟩ = some (.int .i64 (-1)) := by simp [World.cell?, hH9]
        have u1 : W9.cell? ⟨w.heap.size + 1, 1, none⟩ = some (.int .i64 ((CL : Int))) := by simp [World.cell?, hH9]
        have u2 : W9.cell? ⟨w.heap.size + 1, 2, none⟩ = some (.int .i64 (0)) := by simp [World.cell?, hH9]
        have u3 : W9.cell? ⟨w.heap.size + 1, 3, none⟩ = some (.int .i64 (0)) := by simp [World.cell?, hH9]
        have yhl : w.heap.size + 1 < W9.heap.size := (Array.getElem?_eq_some_iff.1 hH9).1
        have hfo9 : Ro W9 5 (.slice (some ⟨fg, fo, none⟩) NF fcc) (xs.set k (⟨f.name, f.params, f.locals, .slice ia CL ic, .slice (some ⟨hg, ho, none⟩) (m + 1) vcap⟩ : Fv)).length (flt enF (xs.set k (⟨f.name, f.params, f.locals, .slice ia CL ic, .slice (some ⟨hg, ho, none⟩) (m + 1) vcap⟩ : Fv))) := hO9.fo
        obtain ⟨_, _, _, e, _, _, yfl, hcs⟩ := (Rx.of_ro hfo9).elem zF hxn
        rw [List.length_set, unhide hNF] at e
        cases e
        have y4 := hcs 4 _ rfl
        have hR9 := (hO9.pt.rows k _ _ hfn hxn).2.2.2.2
        have hq9 : (f.hs ++ [(⟨0, (CL : Int), 0, 0⟩ : Hd)])[m]? = some ⟨0, (CL : Int), 0, 0⟩ := by rw [← unhide hML]; simp
        have hR9z : Ro W9 4 (.slice (some ⟨hg, ho, none⟩) (m + 1) vcap) (m + 1) (flt enH (f.hs ++ [(⟨0, (CL : Int), 0, 0⟩ : Hd)])) := by
          have := hR9
          rw [show ({ f with hs := f.hs ++ [(⟨0, (CL : Int), 0, 0⟩ : Hd)] } : Fc).hs.length = m + 1 by simp [unhide hML]] at this
          exact this
        have yz : ∀ o, W9.frozen? ⟨hg, o, none⟩ = false := fun o => hR9z.free rfl o
        have yz0 := yz (ho + m * 4)
        have yz1 := yz (ho + m * 4 + 1)
        have yz2 := yz (ho + m * 4 + 2)
        have yz3 := yz (ho + m * 4 + 3)
        obtain ⟨_, _, _, e, _, _, ygl, hcs2⟩ := (Rx.of_ro hR9).elem zH (i := m) (p := ⟨0, (CL : Int), 0, 0⟩) hq9
        simp only [List.length_append, unhide hML, List.length_singleton] at e
        cases e
        have g0 := hcs2 0 _ rfl
        have g1 := hcs2 1 _ rfl
        have g2 := hcs2 2 _ rfl
        have g3 := hcs2 3 _ rfl
        rw [Nat.add_zero] at g0
        have hset := hO9.setH (q' := ⟨-1, (CL : Int), 0, 0⟩) hxn hfn hq9 rfl
        rw [set_setF, show ({ ({ f with hs := f.hs ++ [(⟨0, (CL : Int), 0, 0⟩ : Hd)] } : Fc) with hs := (f.hs ++ [(⟨0, (CL : Int), 0, 0⟩ : Hd)]).set m ⟨-1, (CL : Int), 0, 0⟩ } : Fc) = { f with hs := f.hs ++ [(⟨-1, (CL : Int), 0, 0⟩ : Hd)] } by rw [← unhide hML, snoc_set]] at hset
        have fA : Fr (fun b => b = hg) W9 ((((W9.setCell ⟨hg, ho + m * 4, none⟩ (.int .i64 (-1))).setCell ⟨hg, ho + m * 4 + 1, none⟩ (.int .i64 ((CL : Int)))).setCell ⟨hg, ho + m * 4 + 2, none⟩ (.int .i64 (0))).setCell ⟨hg, ho + m * 4 + 3, none⟩ (.int .i64 (0))).drew := Fr.drew (((((Fr.refl (fun b => b = hg) W9).setCell ⟨hg, ho + m * 4, none⟩ (.inr rfl) _).setCell ⟨hg, ho + m * 4 + 1, none⟩ (.inr rfl) _).setCell ⟨hg, ho + m * 4 + 2, none⟩ (.inr rfl) _).setCell ⟨hg, ho + m * 4 + 3, none⟩ (.inr rfl) _)
        have hb9 : Below B w W9 := (unhide HW8).trans (hF9.below (by have := (unhide HW8).size; omega) (fun b hb (e : b = w.heap.size + 1) => by omega))
        have hl9 : Laid W9 := Fr.heldIn hF9 (unhide HL8).pos (by simp) (unhide HL8)
        have HS := hide (unhide HST _ ⟨-1, (CL : Int), 0, 0⟩ (hb9.trans (fA.below (by have := hb9.size; omega) (fun b hb (e : b = hg) => by omega))) (by unfold fitB; exact decide_eq_false (fun q => by simp only at q; omega)) (Fr.heldIn fA hl9.pos (fun (e : 0 = hg) => by omega) hl9) (hset.fr (S := fun _ => False) (Fr.drawnW _) (fun _ _ e => e)))
        have hm0 : (0 : Int) ≤ (m : Int) := by omega
        have hmm : (m : Int) < (m : Int) + 1 := by omega
        clear hcs hcs2 hR9 hR9z yz hset fA hb9 hl9 hO9 hQ9 hH9 hxn hfn hap hin hfo9 hq9 hF9
        go_wp2_with fail
        rw [unhide hW9]
        refine wp_region_held_drew (S := fun wx => Fr (fun b => b = hg) W9 wx) (by kernel_rfl) (Fr.drawnW _) (fun hHeld => ?_)
        refine wpAnyH_take (i := 0) (oi := _) (v := .pointer (some ⟨w.heap.size, 1, none⟩)) rfl (by kernel_rfl) (by kernel_rfl) (by kernel_rfl) (fun _ _ _ h => h) (Or.inl ⟨by rfl, (by intro w hSw; go_simp)⟩) (by assumption) ?_
        refine wpAnyH_take (i := 1) (oi := _) (v := .slice (some ⟨fg, fo, none⟩) NF fcc) rfl (by kernel_rfl) (by kernel_rfl) (by kernel_rfl) (fun _ _ _ h => h) (Or.inl ⟨by rfl, (by intro w hSw; have hs0 := Fr.heldIn hSw yl (fun e => hgQ e.symm) y1; go_simp)⟩) (by assumption) ?_
        go_simp
        refine wpAnyH_take (i := 2) (oi := _) (v := .int .i64 (k : Int)) rfl (by kernel_rfl) (by kernel_rfl) (by kernel_rfl) (fun _ _ _ h => h) (Or.inl ⟨by rfl, (by intro w hSw; go_simp)⟩) (by assumption) ?_
        refine wpAnyH_take (i := 3) (oi := _) (v := .pointer (some ⟨fg, fo + k * 5, none⟩)) rfl (by kernel_rfl) (by kernel_rfl) (by kernel_rfl) (fun _ _ _ h => h) (Or.inl ⟨by rfl, (by intro w hSw; go_simp)⟩) (by assumption) ?_
        go_simp
        refine wpAnyH_take (i := 4) (oi := _) (v := .pointer (some ⟨fg, fo + k * 5 + 4, none⟩)) rfl (by kernel_rfl) (by kernel_rfl) (by kernel_rfl) (fun _ _ _ h => h) (Or.inl ⟨by rfl, (by intro w hSw; go_simp)⟩) (by assumption) ?_
        go_simp
        refine wpAnyH_take (i := 5) (oi := _) (v := .slice (some ⟨hg, ho, none⟩) (m + 1) vcap) rfl (by kernel_rfl) (by kernel_rfl) (by kernel_rfl) (fun _ _ _ h => h) (Or.inl ⟨by rfl, (by intro w hSw; have hs0 := Fr.heldIn hSw yfl (fun e => hgF e.symm) y4; go_simp)⟩) (by assumption) ?_
        go_simp
        refine wpAnyH_take (i := 6) (oi := _) (v := .int .i64 (m : Int)) rfl (by kernel_rfl) (by kernel_rfl) (by kernel_rfl) (fun _ _ _ h => h) (Or.inl ⟨by rfl, (by intro w hSw; go_simp)⟩) (by assumption) ?_
        refine wpAnyH_take (i := 7) (oi := _) (v := .agg #[.int .i64 (-1), .int .i64 ((CL : Int)), .int .i64 (0), .int .i64 (0)]) rfl (by kernel_rfl) (by kernel_rfl) (by kernel_rfl) (fun _ _ _ h => h) (Or.inl ⟨by rfl, (by intro w hSw; have hs0 := Fr.heldIn hSw yhl (fun e => hgH e.symm) u0; have hs1 := Fr.heldIn hSw yhl (fun e => hgH e.symm) u1; have hs2 := Fr.heldIn hSw yhl (fun e => hgH e.symm) u2; have hs3 := Fr.heldIn hSw yhl (fun e => hgH e.symm) u3; go_simp)⟩) (by assumption) ?_
        go_simp
        refine wpAnyH_take (i := 8) (oi := _) (v := .pointer (some ⟨hg, ho + m * 4, none⟩)) rfl (by kernel_rfl) (by kernel_rfl) (by kernel_rfl) (fun _ _ _ h => h) (Or.inl ⟨by rfl, (by intro w hSw; have hmn : ¬ ((m : Int) + 1 ≤ (m : Int)) := (by omega); go_simp)⟩) (by assumption) ?_
        go_simp
        refine wpAnyH_ready (rs := [9]) (by kernel_rfl) (by simp) ?_
        refine AllReadyH.cons (o := _) rfl (fun K hK => ?_) AllReadyH.nil
        go_simp
        refine hK.out _ _ (Fr.drew (((((Fr.refl (fun b => b = hg) W9).setCell ⟨hg, ho + m * 4, none⟩ (.inr rfl) _).setCell ⟨hg, ho + m * 4 + 1, none⟩ (.inr rfl) _).setCell ⟨hg, ho + m * 4 + 2, none⟩ (.inr rfl) _).setCell ⟨hg, ho + m * 4 + 3, none⟩ (.inr rfl) _)) (fun hHeld9x => ?_)
        clear hK K
        refine wpAnyH_done (by kernel_rfl) ?_ _
        go_wp2_with fail
        refine (unhide HS).mono ?_
        rintro e w10 ⟨rfl, hw10⟩
        go_wp2_with fail
        go_ret
        exact ⟨rfl, hw10⟩
      · obtain ⟨W9, hW9⟩ : ∃ x, Hid (w8.setCell ⟨w.heap.size + 1, 0, none⟩ (.int .i64 (CL : Int)) = x) := ⟨_, rfl⟩
        have hF9 : Fr (fun b => b = w.heap.size + 1) w8 W9 := by rw [← unhide hW9]; exact (Fr.refl (fun b => b = w.heap.size + 1) w8).setCell ⟨w.heap.size + 1, 0, none⟩ (.inr rfl) _
        have hO9 := (unhide HO8).fr hF9 (fun b hb (e : b = w.heap.size + 1) => (unhide HN1 b hb).2.1 e)
        have hQ9 := (hF9.block w.heap.size (by omega) (by omega)).trans (unhide HQ8)
        have hH9 : W9.heap[w.heap.size + 1]? = some (.cells #[.int .i64 ((CL : Int)), .int .i64 ((CL : Int)), .int .i64 (0), .int .i64 (0)] 54 (0, 0)) := by rw [← unhide hW9, setCell_block (unhide HH8)]; rfl
        have hxn : (xs.set k (⟨f.name, f.params, f.locals, .slice ia CL ic, .slice (some ⟨hg, ho, none⟩) (m + 1) vcap⟩ : Fv))[k]? = some (⟨f.name, f.params, f.locals, .slice ia CL ic, .slice (some ⟨hg, ho, none⟩) (m + 1) vcap⟩ : Fv) := List.getElem?_set_self hxkl
        have hfn : (p.funcs.set k { f with hs := f.hs ++ [(⟨0, (CL : Int), 0, 0⟩ : Hd)] })[k]? = some { f with hs := f.hs ++ [(⟨0, (CL : Int), 0, 0⟩ : Hd)] } := List.getElem?_set_self (List.getElem?_eq_some_iff.1 (unhide HFKK)).1
        have hap := hO9.pt.apart k _ hg hxn (.inr rfl)
        have hin : inO (.slice cc NC cca) (.slice (some ⟨fg, fo, none⟩) NF fcc) (xs.set k (⟨f.name, f.params, f.locals, .slice ia CL ic, .slice (some ⟨hg, ho, none⟩) (m + 1) vcap⟩ : Fv)) hg := .inr (.inr ⟨k, _, hxn, .inr rfl⟩)
        have hgQ : hg ≠ w.heap.size := (unhide HN1 hg hin).1
        have hgH : hg ≠ w.heap.size + 1 := (unhide HN1 hg hin).2.1
        have hgB : B ≤ hg := (unhide HN1 hg hin).2.2
        have hgF : hg ≠ fg := fun e => hap.2.2 (by rw [e]; rfl)
        have y1 : W9.cell? ⟨w.heap.size, 1, none⟩ = some (.slice (some ⟨fg, fo, none⟩) NF fcc) := by simp [World.cell?, hQ9]
        have y0 : W9.cell? ⟨w.heap.size, 0, none⟩ = some (.slice cc NC cca) := by simp [World.cell?, hQ9]
        have yl : w.heap.size < W9.heap.size := (Array.getElem?_eq_some_iff.1 hQ9).1
        have u0 : W9.cell? ⟨w.heap.size + 1, 0, none⟩ = some (.int .i64 ((CL : Int))) := by simp [World.cell?, hH9]
        have u1 : W9.cell? ⟨w.heap.size + 1, 1, none⟩ = some (.int .i64 ((CL : Int))) := by simp [World.cell?, hH9]
        have u2 : W9.cell? ⟨w.heap.size + 1, 2, none⟩ = some (.int .i64 (0)) := by simp [World.cell?, hH9]
        have u3 : W9.cell? ⟨w.heap.size + 1, 3, none⟩ = some (.int .i64 (0)) := by simp [World.cell?, hH9]
        have yhl : w.heap.size + 1 < W9.heap.size := (Array.getElem?_eq_some_iff.1 hH9).1
        have hfo9 : Ro W9 5 (.slice (some ⟨fg, fo, none⟩) NF fcc) (xs.set k (⟨f.name, f.params, f.locals, .slice ia CL ic, .slice (some ⟨hg, ho, none⟩) (m + 1) vcap⟩ : Fv)).length (flt enF (xs.set k (⟨f.name, f.params, f.locals, .slice ia CL ic, .slice (some ⟨hg, ho, none⟩) (m + 1) vcap⟩ : Fv))) := hO9.fo
        obtain ⟨_, _, _, e, _, _, yfl, hcs⟩ := (Rx.of_ro hfo9).elem zF hxn
        rw [List.length_set, unhide hNF] at e
        cases e
        have y4 := hcs 4 _ rfl
        have hR9 := (hO9.pt.rows k _ _ hfn hxn).2.2.2.2
        have hq9 : (f.hs ++ [(⟨0, (CL : Int), 0, 0⟩ : Hd)])[m]? = some ⟨0, (CL : Int), 0, 0⟩ := by rw [← unhide hML]; simp
        have hR9z : Ro W9 4 (.slice (some ⟨hg, ho, none⟩) (m + 1) vcap) (m + 1) (flt enH (f.hs ++ [(⟨0, (CL : Int), 0, 0⟩ : Hd)])) := by
          have := hR9
          rw [show ({ f with hs := f.hs ++ [(⟨0, (CL : Int), 0, 0⟩ : Hd)] } : Fc).hs.length = m + 1 by simp [unhide hML]] at this
          exact this
        have yz : ∀ o, W9.frozen? ⟨hg, o, none⟩ = false := fun o => hR9z.free rfl o
        have yz0 := yz (ho + m * 4)
        have yz1 := yz (ho + m * 4 + 1)
        have yz2 := yz (ho + m * 4 + 2)
        have yz3 := yz (ho + m * 4 + 3)
        obtain ⟨_, _, _, e, _, _, ygl, hcs2⟩ := (Rx.of_ro hR9).elem zH (i := m) (p := ⟨0, (CL : Int), 0, 0⟩) hq9
        simp only [List.length_append, unhide hML, List.length_singleton] at e
        cases e
        have g0 := hcs2 0 _ rfl
        have g1 := hcs2 1 _ rfl
        have g2 := hcs2 2 _ rfl
        have g3 := hcs2 3 _ rfl
        rw [Nat.add_zero] at g0
        have hset := hO9.setH (q' := ⟨(CL : Int), (CL : Int), 0, 0⟩) hxn hfn hq9 rfl
        rw [set_setF, show ({ ({ f with hs := f.hs ++ [(⟨0, (CL : Int), 0, 0⟩ : Hd)] } : Fc) with hs := (f.hs ++ [(⟨0, (CL : Int), 0, 0⟩ : Hd)]).set m ⟨(CL : Int), (CL : Int), 0, 0⟩ } : Fc) = { f with hs := f.hs ++ [(⟨(CL : Int), (CL : Int), 0, 0⟩ : Hd)] } by rw [← unhide hML, snoc_set]] at hset
        have fA : Fr (fun b => b = hg) W9 ((((W9.setCell ⟨hg, ho + m * 4, none⟩ (.int .i64 ((CL : Int)))).setCell ⟨hg, ho + m * 4 + 1, none⟩ (.int .i64 ((CL : Int)))).setCell ⟨hg, ho + m * 4 + 2, none⟩ (.int .i64 (0))).setCell ⟨hg, ho + m * 4 + 3, none⟩ (.int .i64 (0))).drew := Fr.drew (((((Fr.refl (fun b => b = hg) W9).setCell ⟨hg, ho + m * 4, none⟩ (.inr rfl) _).setCell ⟨hg, ho + m * 4 + 1, none⟩ (.inr rfl) _).setCell ⟨hg, ho + m * 4 + 2, none⟩ (.inr rfl) _).setCell ⟨hg, ho + m * 4 + 3, none⟩ (.inr rfl) _)
        have hb9 : Below B w W9 := (unhide HW8).trans (hF9.below (by have := (unhide HW8).size; omega) (fun b hb (e : b = w.heap.size + 1) => by omega))
        have hl9 : Laid W9 := Fr.heldIn hF9 (unhide HL8).pos (by simp) (unhide HL8)
        have HS := hide (unhide HST _ ⟨(CL : Int), (CL : Int), 0, 0⟩ (hb9.trans (fA.below (by have := hb9.size; omega) (fun b hb (e : b = hg) => by omega))) (by unfold fitB; exact decide_eq_false (fun q => by simp only at q; omega)) (Fr.heldIn fA hl9.pos (fun (e : 0 = hg) => by omega) hl9) (hset.fr (S := fun _ => False) (Fr.drawnW _) (fun _ _ e => e)))
        have hm0 : (0 : Int) ≤ (m : Int) := by omega
        have hmm : (m : Int) < (m : Int) + 1 := by omega
        clear hcs hcs2 hR9 hR9z yz hset fA hb9 hl9 hO9 hQ9 hH9 hxn hfn hap hin hfo9 hq9 hF9
        go_wp2_with fail
        rw [unhide hW9]
        refine wp_region_held_drew (S := fun wx => Fr (fun b => b = hg) W9 wx) (by kernel_rfl) (Fr.drawnW _) (fun hHeld => ?_)
        refine wpAnyH_take (i := 0) (oi := _) (v := .pointer (some ⟨w.heap.size, 1, none⟩)) rfl (by kernel_rfl) (by kernel_rfl) (by kernel_rfl) (fun _ _ _ h => h) (Or.inl ⟨by rfl, (by intro w hSw; go_simp)⟩) (by assumption) ?_
        refine wpAnyH_take (i := 1) (oi := _) (v := .slice (some ⟨fg, fo, none⟩) NF fcc) rfl (by kernel_rfl) (by kernel_rfl) (by kernel_rfl) (fun _ _ _ h => h) (Or.inl ⟨by rfl, (by intro w hSw; have hs0 := Fr.heldIn hSw yl (fun e => hgQ e.symm) y1; go_simp)⟩) (by assumption) ?_
        go_simp
        refine wpAnyH_take (i := 2) (oi := _) (v := .int .i64 (k : Int)) rfl (by kernel_rfl) (by kernel_rfl) (by kernel_rfl) (fun _ _ _ h => h) (Or.inl ⟨by rfl, (by intro w hSw; go_simp)⟩) (by assumption) ?_
        refine wpAnyH_take (i := 3) (oi := _) (v := .pointer (some ⟨fg, fo + k * 5, none⟩)) rfl (by kernel_rfl) (by kernel_rfl) (by kernel_rfl) (fun _ _ _ h => h) (Or.inl ⟨by rfl, (by intro w hSw; go_simp)⟩) (by assumption) ?_
        go_simp
        refine wpAnyH_take (i := 4) (oi := _) (v := .pointer (some ⟨fg, fo + k * 5 + 4, none⟩)) rfl (by kernel_rfl) (by kernel_rfl) (by kernel_rfl) (fun _ _ _ h => h) (Or.inl ⟨by rfl, (by intro w hSw; go_simp)⟩) (by assumption) ?_
        go_simp
        refine wpAnyH_take (i := 5) (oi := _) (v := .slice (some ⟨hg, ho, none⟩) (m + 1) vcap) rfl (by kernel_rfl) (by kernel_rfl) (by kernel_rfl) (fun _ _ _ h => h) (Or.inl ⟨by rfl, (by intro w hSw; have hs0 := Fr.heldIn hSw yfl (fun e => hgF e.symm) y4; go_simp)⟩) (by assumption) ?_
        go_simp
        refine wpAnyH_take (i := 6) (oi := _) (v := .int .i64 (m : Int)) rfl (by kernel_rfl) (by kernel_rfl) (by kernel_rfl) (fun _ _ _ h => h) (Or.inl ⟨by rfl, (by intro w hSw; go_simp)⟩) (by assumption) ?_
        refine wpAnyH_take (i := 7) (oi := _) (v := .agg #[.int .i64 ((CL : Int)), .int .i64 ((CL : Int)), .int .i64 (0), .int .i64 (0)]) rfl (by kernel_rfl) (by kernel_rfl) (by kernel_rfl) (fun _ _ _ h => h) (Or.inl ⟨by rfl, (by intro w hSw; have hs0 := Fr.heldIn hSw yhl (fun e => hgH e.symm) u0; have hs1 := Fr.heldIn hSw yhl (fun e => hgH e.symm) u1; have hs2 := Fr.heldIn hSw yhl (fun e => hgH e.symm) u2; have hs3 := Fr.heldIn hSw yhl (fun e => hgH e.symm) u3; go_simp)⟩) (by assumption) ?_
        go_simp
        refine wpAnyH_take (i := 8) (oi := _) (v := .pointer (some ⟨hg, ho + m * 4, none⟩)) rfl (by kernel_rfl) (by kernel_rfl) (by kernel_rfl) (fun _ _ _ h => h) (Or.inl ⟨by rfl, (by intro w hSw; have hmn : ¬ ((m : Int) + 1 ≤ (m : Int)) := (by omega); go_simp)⟩) (by assumption) ?_
        go_simp
        refine wpAnyH_ready (rs := [9]) (by kernel_rfl) (by simp) ?_
        refine AllReadyH.cons (o := _) rfl (fun K hK => ?_) AllReadyH.nil
        go_simp
        refine hK.out _ _ (Fr.drew (((((Fr.refl (fun b => b = hg) W9).setCell ⟨hg, ho + m * 4, none⟩ (.inr rfl) _).setCell ⟨hg, ho + m * 4 + 1, none⟩ (.inr rfl) _).setCell ⟨hg, ho + m * 4 + 2, none⟩ (.inr rfl) _).setCell ⟨hg, ho + m * 4 + 3, none⟩ (.inr rfl) _)) (fun hHeld9x => ?_)
        clear hK K
        refine wpAnyH_done (by kernel_rfl) ?_ _
        go_wp2_with fail
        refine (unhide HS).mono ?_
        rintro e w10 ⟨rfl, hw10⟩
        go_wp2_with fail
        go_ret
        exact ⟨rfl, hw10⟩
      · have hNw : IntKind.i64.wrap ((CL : Int) + 1) = (CL : Int) + 1 := by rw [IntKind.wrap_i64]; omega
        obtain ⟨W9, hW9⟩ : ∃ x, Hid (w8.setCell ⟨w.heap.size + 1, 1, none⟩ (.int .i64 ((CL : Int) + 1)) = x) := ⟨_, rfl⟩
        have hF9 : Fr (fun b => b = w.heap.size + 1) w8 W9 := by rw [← unhide hW9]; exact (Fr.refl (fun b => b = w.heap.size + 1) w8).setCell ⟨w.heap.size + 1, 1, none⟩ (.inr rfl) _
        have hO9 := (unhide HO8).fr hF9 (fun b hb (e : b = w.heap.size + 1) => (unhide HN1 b hb).2.1 e)
        have hQ9 := (hF9.block w.heap.size (by omega) (by omega)).trans (unhide HQ8)
        have hH9 : W9.heap[w.heap.size + 1]? = some (.cells #[.int .i64 (0), .int .i64 ((CL : Int) + 1), .int .i64 (0), .int .i64 (0)] 54 (0, 0)) := by rw [← unhide hW9, setCell_block (unhide HH8)]; rfl
        have hxn : (xs.set k (⟨f.name, f.params, f.locals, .slice ia CL ic, .slice (some ⟨hg, ho, none⟩) (m + 1) vcap⟩ : Fv))[k]? = some (⟨f.name, f.params, f.locals, .slice ia CL ic, .slice (some ⟨hg, ho, none⟩) (m + 1) vcap⟩ : Fv) := List.getElem?_set_self hxkl
        have hfn : (p.funcs.set k { f with hs := f.hs ++ [(⟨0, (CL : Int), 0, 0⟩ : Hd)] })[k]? = some { f with hs := f.hs ++ [(⟨0, (CL : Int), 0, 0⟩ : Hd)] } := List.getElem?_set_self (List.getElem?_eq_some_iff.1 (unhide HFKK)).1
        have hap := hO9.pt.apart k _ hg hxn (.inr rfl)
        have hin : inO (.slice cc NC cca) (.slice (some ⟨fg, fo, none⟩) NF fcc) (xs.set k (⟨f.name, f.params, f.locals, .slice ia CL ic, .slice (some ⟨hg, ho, none⟩) (m + 1) vcap⟩ : Fv)) hg := .inr (.inr ⟨k, _, hxn, .inr rfl⟩)
        have hgQ : hg ≠ w.heap.size := (unhide HN1 hg hin).1
        have hgH : hg ≠ w.heap.size + 1 := (unhide HN1 hg hin).2.1
        have hgB : B ≤ hg := (unhide HN1 hg hin).2.2
        have hgF : hg ≠ fg := fun e => hap.2.2 (by rw [e]; rfl)
        have y1 : W9.cell? ⟨w.heap.size, 1, none⟩ = some (.slice (some ⟨fg, fo, none⟩) NF fcc) := by simp [World.cell?, hQ9]
        have y0 : W9.cell? ⟨w.heap.size, 0, none⟩ = some (.slice cc NC cca) := by simp [World.cell?, hQ9]
        have yl : w.heap.size < W9.heap.size := (Array.getElem?_eq_some_iff.1 hQ9).1
        have u0 : W9.cell? ⟨w.heap.size + 1, 0, none⟩ = some (.int .i64 (0)) := by simp [World.cell?, hH9]
        have u1 : W9.cell? ⟨w.heap.size + 1, 1, none⟩ = some (.int .i64 ((CL : Int) + 1)) := by simp [World.cell?, hH9]
        have u2 : W9.cell? ⟨w.heap.size + 1, 2, none⟩ = some (.int .i64 (0)) := by simp [World.cell?, hH9]
        have u3 : W9.cell? ⟨w.heap.size + 1, 3, none⟩ = some (.int .i64 (0)) := by simp [World.cell?, hH9]
        have yhl : w.heap.size + 1 < W9.heap.size := (Array.getElem?_eq_some_iff.1 hH9).1
        have hfo9 : Ro W9 5 (.slice (some ⟨fg, fo, none⟩) NF fcc) (xs.set k (⟨f.name, f.params, f.locals, .slice ia CL ic, .slice (some ⟨hg, ho, none⟩) (m + 1) vcap⟩ : Fv)).length (flt enF (xs.set k (⟨f.name, f.params, f.locals, .slice ia CL ic, .slice (some ⟨hg, ho, none⟩) (m + 1) vcap⟩ : Fv))) := hO9.fo
        obtain ⟨_, _, _, e, _, _, yfl, hcs⟩ := (Rx.of_ro hfo9).elem zF hxn
        rw [List.length_set, unhide hNF] at e
        cases e
        have y4 := hcs 4 _ rfl
        have hR9 := (hO9.pt.rows k _ _ hfn hxn).2.2.2.2
        have hq9 : (f.hs ++ [(⟨0, (CL : Int), 0, 0⟩ : Hd)])[m]? = some ⟨0, (CL : Int), 0, 0⟩ := by rw [← unhide hML]; simp
        have hR9z : Ro W9 4 (.slice (some ⟨hg, ho, none⟩) (m + 1) vcap) (m + 1) (flt enH (f.hs ++ [(⟨0, (CL : Int), 0, 0⟩ : Hd)])) := by
          have := hR9
          rw [show ({ f with hs := f.hs ++ [(⟨0, (CL : Int), 0, 0⟩ : Hd)] } : Fc).hs.length = m + 1 by simp [unhide hML]] at this
          exact this
        have yz : ∀ o, W9.frozen? ⟨hg, o, none⟩ = false := fun o => hR9z.free rfl o
        have yz0 := yz (ho + m * 4)
        have yz1 := yz (ho + m * 4 + 1)
        have yz2 := yz (ho + m * 4 + 2)
        have yz3 := yz (ho + m * 4 + 3)
        obtain ⟨_, _, _, e, _, _, ygl, hcs2⟩ := (Rx.of_ro hR9).elem zH (i := m) (p := ⟨0, (CL : Int), 0, 0⟩) hq9
        simp only [List.length_append, unhide hML, List.length_singleton] at e
        cases e
        have g0 := hcs2 0 _ rfl
        have g1 := hcs2 1 _ rfl
        have g2 := hcs2 2 _ rfl
        have g3 := hcs2 3 _ rfl
        rw [Nat.add_zero] at g0
        have hset := hO9.setH (q' := ⟨0, (CL : Int) + 1, 0, 0⟩) hxn hfn hq9 rfl
        rw [set_setF, show ({ ({ f with hs := f.hs ++ [(⟨0, (CL : Int), 0, 0⟩ : Hd)] } : Fc) with hs := (f.hs ++ [(⟨0, (CL : Int), 0, 0⟩ : Hd)]).set m ⟨0, (CL : Int) + 1, 0, 0⟩ } : Fc) = { f with hs := f.hs ++ [(⟨0, (CL : Int) + 1, 0, 0⟩ : Hd)] } by rw [← unhide hML, snoc_set]] at hset
        have fA : Fr (fun b => b = hg) W9 ((((W9.setCell ⟨hg, ho + m * 4, none⟩ (.int .i64 (0))).setCell ⟨hg, ho + m * 4 + 1, none⟩ (.int .i64 ((CL : Int) + 1))).setCell ⟨hg, ho + m * 4 + 2, none⟩ (.int .i64 (0))).setCell ⟨hg, ho + m * 4 + 3, none⟩ (.int .i64 (0))).drew := Fr.drew (((((Fr.refl (fun b => b = hg) W9).setCell ⟨hg, ho + m * 4, none⟩ (.inr rfl) _).setCell ⟨hg, ho + m * 4 + 1, none⟩ (.inr rfl) _).setCell ⟨hg, ho + m * 4 + 2, none⟩ (.inr rfl) _).setCell ⟨hg, ho + m * 4 + 3, none⟩ (.inr rfl) _)
        have hb9 : Below B w W9 := (unhide HW8).trans (hF9.below (by have := (unhide HW8).size; omega) (fun b hb (e : b = w.heap.size + 1) => by omega))
        have hl9 : Laid W9 := Fr.heldIn hF9 (unhide HL8).pos (by simp) (unhide HL8)
        have HS := hide (unhide HST _ ⟨0, (CL : Int) + 1, 0, 0⟩ (hb9.trans (fA.below (by have := hb9.size; omega) (fun b hb (e : b = hg) => by omega))) (by unfold fitB; exact decide_eq_false (fun q => by simp only at q; omega)) (Fr.heldIn fA hl9.pos (fun (e : 0 = hg) => by omega) hl9) (hset.fr (S := fun _ => False) (Fr.drawnW _) (fun _ _ e => e)))
        have hm0 : (0 : Int) ≤ (m : Int) := by omega
        have hmm : (m : Int) < (m : Int) + 1 := by omega
        clear hcs hcs2 hR9 hR9z yz hset fA hb9 hl9 hO9 hQ9 hH9 hxn hfn hap hin hfo9 hq9 hF9
        go_wp2_with fail
        rw [unhide hW9]
        refine wp_region_held_drew (S := fun wx => Fr (fun b => b = hg) W9 wx) (by kernel_rfl) (Fr.drawnW _) (fun hHeld => ?_)
        refine wpAnyH_take (i := 0) (oi := _) (v := .pointer (some ⟨w.heap.size, 1, none⟩)) rfl (by kernel_rfl) (by kernel_rfl) (by kernel_rfl) (fun _ _ _ h => h) (Or.inl ⟨by rfl, (by intro w hSw; go_simp)⟩) (by assumption) ?_
        refine wpAnyH_take (i := 1) (oi := _) (v := .slice (some ⟨fg, fo, none⟩) NF fcc) rfl (by kernel_rfl) (by kernel_rfl) (by kernel_rfl) (fun _ _ _ h => h) (Or.inl ⟨by rfl, (by intro w hSw; have hs0 := Fr.heldIn hSw yl (fun e => hgQ e.symm) y1; go_simp)⟩) (by assumption) ?_
        go_simp
        refine wpAnyH_take (i := 2) (oi := _) (v := .int .i64 (k : Int)) rfl (by kernel_rfl) (by kernel_rfl) (by kernel_rfl) (fun _ _ _ h => h) (Or.inl ⟨by rfl, (by intro w hSw; go_simp)⟩) (by assumption) ?_
        refine wpAnyH_take (i := 3) (oi := _) (v := .pointer (some ⟨fg, fo + k * 5, none⟩)) rfl (by kernel_rfl) (by kernel_rfl) (by kernel_rfl) (fun _ _ _ h => h) (Or.inl ⟨by rfl, (by intro w hSw; go_simp)⟩) (by assumption) ?_
        go_simp
        refine wpAnyH_take (i := 4) (oi := _) (v := .pointer (some ⟨fg, fo + k * 5 + 4, none⟩)) rfl (by kernel_rfl) (by kernel_rfl) (by kernel_rfl) (fun _ _ _ h => h) (Or.inl ⟨by rfl, (by intro w hSw; go_simp)⟩) (by assumption) ?_
        go_simp
        refine wpAnyH_take (i := 5) (oi := _) (v := .slice (some ⟨hg, ho, none⟩) (m + 1) vcap) rfl (by kernel_rfl) (by kernel_rfl) (by kernel_rfl) (fun _ _ _ h => h) (Or.inl ⟨by rfl, (by intro w hSw; have hs0 := Fr.heldIn hSw yfl (fun e => hgF e.symm) y4; go_simp)⟩) (by assumption) ?_
        go_simp
        refine wpAnyH_take (i := 6) (oi := _) (v := .int .i64 (m : Int)) rfl (by kernel_rfl) (by kernel_rfl) (by kernel_rfl) (fun _ _ _ h => h) (Or.inl ⟨by rfl, (by intro w hSw; go_simp)⟩) (by assumption) ?_
        refine wpAnyH_take (i := 7) (oi := _) (v := .agg #[.int .i64 (0), .int .i64 ((CL : Int) + 1), .int .i64 (0), .int .i64 (0)]) rfl (by kernel_rfl) (by kernel_rfl) (by kernel_rfl) (fun _ _ _ h => h) (Or.inl ⟨by rfl, (by intro w hSw; have hs0 := Fr.heldIn hSw yhl (fun e => hgH e.symm) u0; have hs1 := Fr.heldIn hSw yhl (fun e => hgH e.symm) u1; have hs2 := Fr.heldIn hSw yhl (fun e => hgH e.symm) u2; have hs3 := Fr.heldIn hSw yhl (fun e => hgH e.symm) u3; go_simp)⟩) (by assumption) ?_
        go_simp
        refine wpAnyH_take (i := 8) (oi := _) (v := .pointer (some ⟨hg, ho + m * 4, none⟩)) rfl (by kernel_rfl) (by kernel_rfl) (by kernel_rfl) (fun _ _ _ h => h) (Or.inl ⟨by rfl, (by intro w hSw; have hmn : ¬ ((m : Int) + 1 ≤ (m : Int)) := (by omega); go_simp)⟩) (by assumption) ?_
        go_simp
        refine wpAnyH_ready (rs := [9]) (by kernel_rfl) (by simp) ?_
        refine AllReadyH.cons (o := _) rfl (fun K hK => ?_) AllReadyH.nil
        go_simp
        refine hK.out _ _ (Fr.drew (((((Fr.refl (fun b => b = hg) W9).setCell ⟨hg, ho + m * 4, none⟩ (.inr rfl) _).setCell ⟨hg, ho + m * 4 + 1, none⟩ (.inr rfl) _).setCell ⟨hg, ho + m * 4 + 2, none⟩ (.inr rfl) _).setCell ⟨hg, ho + m * 4 + 3, none⟩ (.inr rfl) _)) (fun hHeld9x => ?_)
        clear hK K
        refine wpAnyH_done (by kernel_rfl) ?_ _
        go_wp2_with fail
        refine (unhide HS).mono ?_
        rintro e w10 ⟨rfl, hw10⟩
        go_wp2_with fail
        go_ret
        exact ⟨rfl, hw10⟩
      · obtain ⟨W9, hW9⟩ : ∃ x, Hid (w8.setCell ⟨w.heap.size + 1, 2, none⟩ (.int .i64 (CL : Int)) = x) := ⟨_, rfl⟩
        have hF9 : Fr (fun b => b = w.heap.size + 1) w8 W9 := by rw [← unhide hW9]; exact (Fr.refl (fun b => b = w.heap.size + 1) w8).setCell ⟨w.heap.size + 1, 2, none⟩ (.inr rfl) _
        have hO9 := (unhide HO8).fr hF9 (fun b hb (e : b = w.heap.size + 1) => (unhide HN1 b hb).2.1 e)
        have hQ9 := (hF9.block w.heap.size (by omega) (by omega)).trans (unhide HQ8)
        have hH9 : W9.heap[w.heap.size + 1]? = some (.cells #[.int .i64 (0), .int .i64 ((CL : Int)), .int .i64 ((CL : Int)), .int .i64 (0)] 54 (0, 0)) := by rw [← unhide hW9, setCell_block (unhide HH8)]; rfl
        have hxn : (xs.set k (⟨f.name, f.params, f.locals, .slice ia CL ic, .slice (some ⟨hg, ho, none⟩) (m + 1) vcap⟩ : Fv))[k]? = some (⟨f.name, f.params, f.locals, .slice ia CL ic, .slice (some ⟨hg, ho, none⟩) (m + 1) vcap⟩ : Fv) := List.getElem?_set_self hxkl
        have hfn : (p.funcs.set k { f with hs := f.hs ++ [(⟨0, (CL : Int), 0, 0⟩ : Hd)] })[k]? = some { f with hs := f.hs ++ [(⟨0, (CL : Int), 0, 0⟩ : Hd)] } := List.getElem?_set_self (List.getElem?_eq_some_iff.1 (unhide HFKK)).1
        have hap := hO9.pt.apart k _ hg hxn (.inr rfl)
        have hin : inO (.slice cc NC cca) (.slice (some ⟨fg, fo, none⟩) NF fcc) (xs.set k (⟨f.name, f.params, f.locals, .slice ia CL ic, .slice (some ⟨hg, ho, none⟩) (m + 1) vcap⟩ : Fv)) hg := .inr (.inr ⟨k, _, hxn, .inr rfl⟩)
        have hgQ : hg ≠ w.heap.size := (unhide HN1 hg hin).1
        have hgH : hg ≠ w.heap.size + 1 := (unhide HN1 hg hin).2.1
        have hgB : B ≤ hg := (unhide HN1 hg hin).2.2
        have hgF : hg ≠ fg := fun e => hap.2.2 (by rw [e]; rfl)
        have y1 : W9.cell? ⟨w.heap.size, 1, none⟩ = some (.slice (some ⟨fg, fo, none⟩) NF fcc) := by simp [World.cell?, hQ9]
        have y0 : W9.cell? ⟨w.heap.size, 0, none⟩ = some (.slice cc NC cca) := by simp [World.cell?, hQ9]
        have yl : w.heap.size < W9.heap.size := (Array.getElem?_eq_some_iff.1 hQ9).1
        have u0 : W9.cell? ⟨w.heap.size + 1, 0, none⟩ = some (.int .i64 (0)) := by simp [World.cell?, hH9]
        have u1 : W9.cell? ⟨w.heap.size + 1, 1, none⟩ = some (.int .i64 ((CL : Int))) := by simp [World.cell?, hH9]
        have u2 : W9.cell? ⟨w.heap.size + 1, 2, none⟩ = some (.int .i64 ((CL : Int))) := by simp [World.cell?, hH9]
        have u3 : W9.cell? ⟨w.heap.size + 1, 3, none⟩ = some (.int .i64 (0)) := by simp [World.cell?, hH9]
        have yhl : w.heap.size + 1 < W9.heap.size := (Array.getElem?_eq_some_iff.1 hH9).1
        have hfo9 : Ro W9 5 (.slice (some ⟨fg, fo, none⟩) NF fcc) (xs.set k (⟨f.name, f.params, f.locals, .slice ia CL ic, .slice (some ⟨hg, ho, none⟩) (m + 1) vcap⟩ : Fv)).length (flt enF (xs.set k (⟨f.name, f.params, f.locals, .slice ia CL ic, .slice (some ⟨hg, ho, none⟩) (m + 1) vcap⟩ : Fv))) := hO9.fo
        obtain ⟨_, _, _, e, _, _, yfl, hcs⟩ := (Rx.of_ro hfo9).elem zF hxn
        rw [List.length_set, unhide hNF] at e
        cases e
        have y4 := hcs 4 _ rfl
        have hR9 := (hO9.pt.rows k _ _ hfn hxn).2.2.2.2
        have hq9 : (f.hs ++ [(⟨0, (CL : Int), 0, 0⟩ : Hd)])[m]? = some ⟨0, (CL : Int), 0, 0⟩ := by rw [← unhide hML]; simp
        have hR9z : Ro W9 4 (.slice (some ⟨hg, ho, none⟩) (m + 1) vcap) (m + 1) (flt enH (f.hs ++ [(⟨0, (CL : Int), 0, 0⟩ : Hd)])) := by
          have := hR9
          rw [show ({ f with hs := f.hs ++ [(⟨0, (CL : Int), 0, 0⟩ : Hd)] } : Fc).hs.length = m + 1 by simp [unhide hML]] at this
          exact this
        have yz : ∀ o, W9.frozen? ⟨hg, o, none⟩ = false := fun o => hR9z.free rfl o
        have yz0 := yz (ho + m * 4)
        have yz1 := yz (ho + m * 4 + 1)
        have yz2 := yz (ho + m * 4 + 2)
        have yz3 := yz (ho + m * 4 + 3)
        obtain ⟨_, _, _, e, _, _, ygl, hcs2⟩ := (Rx.of_ro hR9).elem zH (i := m) (p := ⟨0, (CL : Int), 0, 0⟩) hq9
        simp only [List.length_append, unhide hML, List.length_singleton] at e
        cases e
        have g0 := hcs2 0 _ rfl
        have g1 := hcs2 1 _ rfl
        have g2 := hcs2 2 _ rfl
        have g3 := hcs2 3 _ rfl
        rw [Nat.add_zero] at g0
        have hset := hO9.setH (q' := ⟨0, (CL : Int), (CL : Int), 0⟩) hxn hfn hq9 rfl
        rw [set_setF, show ({ ({ f with hs := f.hs ++ [(⟨0, (CL : Int), 0, 0⟩ : Hd)] } : Fc) with hs := (f.hs ++ [(⟨0, (CL : Int), 0, 0⟩ : Hd)]).set m ⟨0, (CL : Int), (CL : Int), 0⟩ } : Fc) = { f with hs := f.hs ++ [(⟨0, (CL : Int), (CL : Int), 0⟩ : Hd)] } by rw [← unhide hML, snoc_set]] at hset
        have fA : Fr (fun b => b = hg) W9 ((((W9.setCell ⟨hg, ho + m * 4, none⟩ (.int .i64 (0))).setCell ⟨hg, ho + m * 4 + 1, none⟩ (.int .i64 ((CL : Int)))).setCell ⟨hg, ho + m * 4 + 2, none⟩ (.int .i64 ((CL : Int)))).setCell ⟨hg, ho + m * 4 + 3, none⟩ (.int .i64 (0))).drew := Fr.drew (((((Fr.refl (fun b => b = hg) W9).setCell ⟨hg, ho + m * 4, none⟩ (.inr rfl) _).setCell ⟨hg, ho + m * 4 + 1, none⟩ (.inr rfl) _).setCell ⟨hg, ho + m * 4 + 2, none⟩ (.inr rfl) _).setCell ⟨hg, ho + m * 4 + 3, none⟩ (.inr rfl) _)
        have hb9 : Below B w W9 := (unhide HW8).trans (hF9.below (by have := (unhide HW8).size; omega) (fun b hb (e : b = w.heap.size + 1) => by omega))
        have hl9 : Laid W9 := Fr.heldIn hF9 (unhide HL8).pos (by simp) (unhide HL8)
        have HS := hide (unhide HST _ ⟨0, (CL : Int), (CL : Int), 0⟩ (hb9.trans (fA.below (by have := hb9.size; omega) (fun b hb (e : b = hg) => by omega))) (by unfold fitB; exact decide_eq_false (fun q => by simp only at q; omega)) (Fr.heldIn fA hl9.pos (fun (e : 0 = hg) => by omega) hl9) (hset.fr (S := fun _ => False) (Fr.drawnW _) (fun _ _ e => e)))
        have hm0 : (0 : Int) ≤ (m : Int) := by omega
        have hmm : (m : Int) < (m : Int) + 1 := by omega
        clear hcs hcs2 hR9 hR9z yz hset fA hb9 hl9 hO9 hQ9 hH9 hxn hfn hap hin hfo9 hq9 hF9
        go_wp2_with fail
        rw [unhide hW9]
        refine wp_region_held_drew (S := fun wx => Fr (fun b => b = hg) W9 wx) (by kernel_rfl) (Fr.drawnW _) (fun hHeld => ?_)
        refine wpAnyH_take (i := 0) (oi := _) (v := .pointer (some ⟨w.heap.size, 1, none⟩)) rfl (by kernel_rfl) (by kernel_rfl) (by kernel_rfl) (fun _ _ _ h => h) (Or.inl ⟨by rfl, (by intro w hSw; go_simp)⟩) (by assumption) ?_
        refine wpAnyH_take (i := 1) (oi := _) (v := .slice (some ⟨fg, fo, none⟩) NF fcc) rfl (by kernel_rfl) (by kernel_rfl) (by kernel_rfl) (fun _ _ _ h => h) (Or.inl ⟨by rfl, (by intro w hSw; have hs0 := Fr.heldIn hSw yl (fun e => hgQ e.symm) y1; go_simp)⟩) (by assumption) ?_
        go_simp
        refine wpAnyH_take (i := 2) (oi := _) (v := .int .i64 (k : Int)) rfl (by kernel_rfl) (by kernel_rfl) (by kernel_rfl) (fun _ _ _ h => h) (Or.inl ⟨by rfl, (by intro w hSw; go_simp)⟩) (by assumption) ?_
        refine wpAnyH_take (i := 3) (oi := _) (v := .pointer (some ⟨fg, fo + k * 5, none⟩)) rfl (by kernel_rfl) (by kernel_rfl) (by kernel_rfl) (fun _ _ _ h => h) (Or.inl ⟨by rfl, (by intro w hSw; go_simp)⟩) (by assumption) ?_
        go_simp
        refine wpAnyH_take (i := 4) (oi := _) (v := .pointer (some ⟨fg, fo + k * 5 + 4, none⟩)) rfl (by kernel_rfl) (by kernel_rfl) (by kernel_rfl) (fun _ _ _ h => h) (Or.inl ⟨by rfl, (by intro w hSw; go_simp)⟩) (by assumption) ?_
        go_simp
        refine wpAnyH_take (i := 5) (oi := _) (v := .slice (some ⟨hg, ho, none⟩) (m + 1) vcap) rfl (by kernel_rfl) (by kernel_rfl) (by kernel_rfl) (fun _ _ _ h => h) (Or.inl ⟨by rfl, (by intro w hSw; have hs0 := Fr.heldIn hSw yfl (fun e => hgF e.symm) y4; go_simp)⟩) (by assumption) ?_
        go_simp
        refine wpAnyH_take (i := 6) (oi := _) (v := .int .i64 (m : Int)) rfl (by kernel_rfl) (by kernel_rfl) (by kernel_rfl) (fun _ _ _ h => h) (Or.inl ⟨by rfl, (by intro w hSw; go_simp)⟩) (by assumption) ?_
        refine wpAnyH_take (i := 7) (oi := _) (v := .agg #[.int .i64 (0), .int .i64 ((CL : Int)), .int .i64 ((CL : Int)), .int .i64 (0)]) rfl (by kernel_rfl) (by kernel_rfl) (by kernel_rfl) (fun _ _ _ h => h) (Or.inl ⟨by rfl, (by intro w hSw; have hs0 := Fr.heldIn hSw yhl (fun e => hgH e.symm) u0; have hs1 := Fr.heldIn hSw yhl (fun e => hgH e.symm) u1; have hs2 := Fr.heldIn hSw yhl (fun e => hgH e.symm) u2; have hs3 := Fr.heldIn hSw yhl (fun e => hgH e.symm) u3; go_simp)⟩) (by assumption) ?_
        go_simp
        refine wpAnyH_take (i := 8) (oi := _) (v := .pointer (some ⟨hg, ho + m * 4, none⟩)) rfl (by kernel_rfl) (by kernel_rfl) (by kernel_rfl) (fun _ _ _ h => h) (Or.inl ⟨by rfl, (by intro w hSw; have hmn : ¬ ((m : Int) + 1 ≤ (m : Int)) := (by omega); go_simp)⟩) (by assumption) ?_
        go_simp
        refine wpAnyH_ready (rs := [9]) (by kernel_rfl) (by simp) ?_
        refine AllReadyH.cons (o := _) rfl (fun K hK => ?_) AllReadyH.nil
        go_simp
        refine hK.out _ _ (Fr.drew (((((Fr.refl (fun b => b = hg) W9).setCell ⟨hg, ho + m * 4, none⟩ (.inr rfl) _).setCell ⟨hg, ho + m * 4 + 1, none⟩ (.inr rfl) _).setCell ⟨hg, ho + m * 4 + 2, none⟩ (.inr rfl) _).setCell ⟨hg, ho + m * 4 + 3, none⟩ (.inr rfl) _)) (fun hHeld9x => ?_)
        clear hK K
        refine wpAnyH_done (by kernel_rfl) ?_ _
        go_wp2_with fail
        refine (unhide HS).mono ?_
        rintro e w10 ⟨rfl, hw10⟩
        go_wp2_with fail
        go_ret
        exact ⟨rfl, hw10⟩
      · obtain ⟨W9, hW9⟩ : ∃ x, Hid (w8.setCell ⟨w.heap.size + 1, 3, none⟩ (.int .i64 64) = x) := ⟨_, rfl⟩
        have hF9 : Fr (fun b => b = w.heap.size + 1) w8 W9 := by rw [← unhide hW9]; exact (Fr.refl (fun b => b = w.heap.size + 1) w8).setCell ⟨w.heap.size + 1, 3, none⟩ (.inr rfl) _
        have hO9 := (unhide HO8).fr hF9 (fun b hb (e : b = w.heap.size + 1) => (unhide HN1 b hb).2.1 e)
        have hQ9 := (hF9.block w.heap.size (by omega) (by omega)).trans (unhide HQ8)
        have hH9 : W9.heap[w.heap.size + 1]? = some (.cells #[.int .i64 (0), .int .i64 ((CL : Int)), .int .i64 (0), .int .i64 (64)] 54 (0, 0)) := by rw [← unhide hW9, setCell_block (unhide HH8)]; rfl
        have hxn : (xs.set k (⟨f.name, f.params, f.locals, .slice ia CL ic, .slice (some ⟨hg, ho, none⟩) (m + 1) vcap⟩ : Fv))[k]? = some (⟨f.name, f.params, f.locals, .slice ia CL ic, .slice (some ⟨hg, ho, none⟩) (m + 1) vcap⟩ : Fv) := List.getElem?_set_self hxkl
        have hfn : (p.funcs.set k { f with hs := f.hs ++ [(⟨0, (CL : Int), 0, 0⟩ : Hd)] })[k]? = some { f with hs := f.hs ++ [(⟨0, (CL : Int), 0, 0⟩ : Hd)] } := List.getElem?_set_self (List.getElem?_eq_some_iff.1 (unhide HFKK)).1
        have hap := hO9.pt.apart k _ hg hxn (.inr rfl)
        have hin : inO (.slice cc NC cca) (.slice (some ⟨fg, fo, none⟩) NF fcc) (xs.set k (⟨f.name, f.params, f.locals, .slice ia CL ic, .slice (some ⟨hg, ho, none⟩) (m + 1) vcap⟩ : Fv)) hg := .inr (.inr ⟨k, _, hxn, .inr rfl⟩)
        have hgQ : hg ≠ w.heap.size := (unhide HN1 hg hin).1
        have hgH : hg ≠ w.heap.size + 1 := (unhide HN1 hg hin).2.1
        have hgB : B ≤ hg := (unhide HN1 hg hin).2.2
        have hgF : hg ≠ fg := fun e => hap.2.2 (by rw [e]; rfl)
        have y1 : W9.cell? ⟨w.heap.size, 1, none⟩ = some (.slice (some ⟨fg, fo, none⟩) NF fcc) := by simp [World.cell?, hQ9]
        have y0 : W9.cell? ⟨w.heap.size, 0, none⟩ = some (.slice cc NC cca) := by simp [World.cell?, hQ9]
        have yl : w.heap.size < W9.heap.size := (Array.getElem?_eq_some_iff.1 hQ9).1
        have u0 : W9.cell? ⟨w.heap.size + 1, 0, none⟩ = some (.int .i64 (0)) := by simp [World.cell?, hH9]
        have u1 : W9.cell? ⟨w.heap.size + 1, 1, none⟩ = some (.int .i64 ((CL : Int))) := by simp [World.cell?, hH9]
        have u2 : W9.cell? ⟨w.heap.size + 1, 2, none⟩ = some (.int .i64 (0)) := by simp [World.cell?, hH9]
        have u3 : W9.cell? ⟨w.heap.size + 1, 3, none⟩ = some (.int .i64 (64)) := by simp [World.cell?, hH9]
        have yhl : w.heap.size + 1 < W9.heap.size := (Array.getElem?_eq_some_iff.1 hH9).1
        have hfo9 : Ro W9 5 (.slice (some ⟨fg, fo, none⟩) NF fcc) (xs.set k (⟨f.name, f.params, f.locals, .slice ia CL ic, .slice (some ⟨hg, ho, none⟩) (m + 1) vcap⟩ : Fv)).length (flt enF (xs.set k (⟨f.name, f.params, f.locals, .slice ia CL ic, .slice (some ⟨hg, ho, none⟩) (m + 1) vcap⟩ : Fv))) := hO9.fo
        obtain ⟨_, _, _, e, _, _, yfl, hcs⟩ := (Rx.of_ro hfo9).elem zF hxn
        rw [List.length_set, unhide hNF] at e
        cases e
        have y4 := hcs 4 _ rfl
        have hR9 := (hO9.pt.rows k _ _ hfn hxn).2.2.2.2
        have hq9 : (f.hs ++ [(⟨0, (CL : Int), 0, 0⟩ : Hd)])[m]? = some ⟨0, (CL : Int), 0, 0⟩ := by rw [← unhide hML]; simp
        have hR9z : Ro W9 4 (.slice (some ⟨hg, ho, none⟩) (m + 1) vcap) (m + 1) (flt enH (f.hs ++ [(⟨0, (CL : Int), 0, 0⟩ : Hd)])) := by
          have := hR9
          rw [show ({ f with hs := f.hs ++ [(⟨0, (CL : Int), 0, 0⟩ : Hd)] } : Fc).hs.length = m + 1 by simp [unhide hML]] at this
          exact this
        have yz : ∀ o, W9.frozen? ⟨hg, o, none⟩ = false := fun o => hR9z.free rfl o
        have yz0 := yz (ho + m * 4)
        have yz1 := yz (ho + m * 4 + 1)
        have yz2 := yz (ho + m * 4 + 2)
        have yz3 := yz (ho + m * 4 + 3)
        obtain ⟨_, _, _, e, _, _, ygl, hcs2⟩ := (Rx.of_ro hR9).elem zH (i := m) (p := ⟨0, (CL : Int), 0, 0⟩) hq9
        simp only [List.length_append, unhide hML, List.length_singleton] at e
        cases e
        have g0 := hcs2 0 _ rfl
        have g1 := hcs2 1 _ rfl
        have g2 := hcs2 2 _ rfl
        have g3 := hcs2 3 _ rfl
        rw [Nat.add_zero] at g0
        have hset := hO9.setH (q' := ⟨0, (CL : Int), 0, 64⟩) hxn hfn hq9 rfl
        rw [set_setF, show ({ ({ f with hs := f.hs ++ [(⟨0, (CL : Int), 0, 0⟩ : Hd)] } : Fc) with hs := (f.hs ++ [(⟨0, (CL : Int), 0, 0⟩ : Hd)]).set m ⟨0, (CL : Int), 0, 64⟩ } : Fc) = { f with hs := f.hs ++ [(⟨0, (CL : Int), 0, 64⟩ : Hd)] } by rw [← unhide hML, snoc_set]] at hset
        have fA : Fr (fun b => b = hg) W9 ((((W9.setCell ⟨hg, ho + m * 4, none⟩ (.int .i64 (0))).setCell ⟨hg, ho + m * 4 + 1, none⟩ (.int .i64 ((CL : Int)))).setCell ⟨hg, ho + m * 4 + 2, none⟩ (.int .i64 (0))).setCell ⟨hg, ho + m * 4 + 3, none⟩ (.int .i64 (64))).drew := Fr.drew (((((Fr.refl (fun b => b = hg) W9).setCell ⟨hg, ho + m * 4, none⟩ (.inr rfl) _).setCell ⟨hg, ho + m * 4 + 1, none⟩ (.inr rfl) _).setCell ⟨hg, ho + m * 4 + 2, none⟩ (.inr rfl) _).setCell ⟨hg, ho + m * 4 + 3, none⟩ (.inr rfl) _)
        have hb9 : Below B w W9 := (unhide HW8).trans (hF9.below (by have := (unhide HW8).size; omega) (fun b hb (e : b = w.heap.size + 1) => by omega))
        have hl9 : Laid W9 := Fr.heldIn hF9 (unhide HL8).pos (by simp) (unhide HL8)
        have HS := hide (unhide HST _ ⟨0, (CL : Int), 0, 64⟩ (hb9.trans (fA.below (by have := hb9.size; omega) (fun b hb (e : b = hg) => by omega))) (by unfold fitB; exact decide_eq_false (fun q => by simp only at q; omega)) (Fr.heldIn fA hl9.pos (fun (e : 0 = hg) => by omega) hl9) (hset.fr (S := fun _ => False) (Fr.drawnW _) (fun _ _ e => e)))
        have hm0 : (0 : Int) ≤ (m : Int) := by omega
        have hmm : (m : Int) < (m : Int) + 1 := by omega
        clear hcs hcs2 hR9 hR9z yz hset fA hb9 hl9 hO9 hQ9 hH9 hxn hfn hap hin hfo9 hq9 hF9
        go_wp2_with fail
        rw [unhide hW9]
        refine wp_region_held_drew (S := fun wx => Fr (fun b => b = hg) W9 wx) (by kernel_rfl) (Fr.drawnW _) (fun hHeld => ?_)
        refine wpAnyH_take (i := 0) (oi := _) (v := .pointer (some ⟨w.heap.size, 1, none⟩)) rfl (by kernel_rfl) (by kernel_rfl) (by kernel_rfl) (fun _ _ _ h => h) (Or.inl ⟨by rfl, (by intro w hSw; go_simp)⟩) (by assumption) ?_
        refine wpAnyH_take (i := 1) (oi := _) (v := .slice (some ⟨fg, fo, none⟩) NF fcc) rfl (by kernel_rfl) (by kernel_rfl) (by kernel_rfl) (fun _ _ _ h => h) (Or.inl ⟨by rfl, (by intro w hSw; have hs0 := Fr.heldIn hSw yl (fun e => hgQ e.symm) y1; go_simp)⟩) (by assumption) ?_
        go_simp
        refine wpAnyH_take (i := 2) (oi := _) (v := .int .i64 (k : Int)) rfl (by kernel_rfl) (by kernel_rfl) (by kernel_rfl) (fun _ _ _ h => h) (Or.inl ⟨by rfl, (by intro w hSw; go_simp)⟩) (by assumption) ?_
        refine wpAnyH_take (i := 3) (oi := _) (v := .pointer (some ⟨fg, fo + k * 5, none⟩)) rfl (by kernel_rfl) (by kernel_rfl) (by kernel_rfl) (fun _ _ _ h => h) (Or.inl ⟨by rfl, (by intro w hSw; go_simp)⟩) (by assumption) ?_
        go_simp
        refine wpAnyH_take (i := 4) (oi := _) (v := .pointer (some ⟨fg, fo + k * 5 + 4, none⟩)) rfl (by kernel_rfl) (by kernel_rfl) (by kernel_rfl) (fun _ _ _ h => h) (Or.inl ⟨by rfl, (by intro w hSw; go_simp)⟩) (by assumption) ?_
        go_simp
        refine wpAnyH_take (i := 5) (oi := _) (v := .slice (some ⟨hg, ho, none⟩) (m + 1) vcap) rfl (by kernel_rfl) (by kernel_rfl) (by kernel_rfl) (fun _ _ _ h => h) (Or.inl ⟨by rfl, (by intro w hSw; have hs0 := Fr.heldIn hSw yfl (fun e => hgF e.symm) y4; go_simp)⟩) (by assumption) ?_
        go_simp
        refine wpAnyH_take (i := 6) (oi := _) (v := .int .i64 (m : Int)) rfl (by kernel_rfl) (by kernel_rfl) (by kernel_rfl) (fun _ _ _ h => h) (Or.inl ⟨by rfl, (by intro w hSw; go_simp)⟩) (by assumption) ?_
        refine wpAnyH_take (i := 7) (oi := _) (v := .agg #[.int .i64 (0), .int .i64 ((CL : Int)), .int .i64 (0), .int .i64 (64)]) rfl (by kernel_rfl) (by kernel_rfl) (by kernel_rfl) (fun _ _ _ h => h) (Or.inl ⟨by rfl, (by intro w hSw; have hs0 := Fr.heldIn hSw yhl (fun e => hgH e.symm) u0; have hs1 := Fr.heldIn hSw yhl (fun e => hgH e.symm) u1; have hs2 := Fr.heldIn hSw yhl (fun e => hgH e.symm) u2; have hs3 := Fr.heldIn hSw yhl (fun e => hgH e.symm) u3; go_simp)⟩) (by assumption) ?_
        go_simp
        refine wpAnyH_take (i := 8) (oi := _) (v := .pointer (some ⟨hg, ho + m * 4, none⟩)) rfl (by kernel_rfl) (by kernel_rfl) (by kernel_rfl) (fun _ _ _ h => h) (Or.inl ⟨by rfl, (by intro w hSw; have hmn : ¬ ((m : Int) + 1 ≤ (m : Int)) := (by omega); go_simp)⟩) (by assumption) ?_
        go_simp
        refine wpAnyH_ready (rs := [9]) (by kernel_rfl) (by simp) ?_
        refine AllReadyH.cons (o := _) rfl (fun K hK => ?_) AllReadyH.nil
        go_simp
        refine hK.out _ _ (Fr.drew (((((Fr.refl (fun b => b = hg) W9).setCell ⟨hg, ho + m * 4, none⟩ (.inr rfl) _).setCell ⟨hg, ho + m * 4 + 1, none⟩ (.inr rfl) _).setCell ⟨hg, ho + m * 4 + 2, none⟩ (.inr rfl) _).setCell ⟨hg, ho + m * 4 + 3, none⟩ (.inr rfl) _)) (fun hHeld9x => ?_)
        clear hK K
        refine wpAnyH_done (by kernel_rfl) ?_ _
        go_wp2_with fail
        refine (unhide HS).mono ?_
        rintro e w10 ⟨rfl, hw10⟩
        go_wp2_with fail
        go_ret
        exact ⟨rfl, hw10⟩
      · obtain ⟨W9, hW9⟩ : ∃ x, Hid (w8.setCell ⟨w.heap.size + 1, 3, none⟩ (.int .i64 (-1)) = x) := ⟨_, rfl⟩
        have hF9 : Fr (fun b => b = w.heap.size + 1) w8 W9 := by rw [← unhide hW9]; exact (Fr.refl (fun b => b = w.heap.size + 1) w8).setCell ⟨w.heap.size + 1, 3, none⟩ (.inr rfl) _
        have hO9 := (unhide HO8).fr hF9 (fun b hb (e : b = w.heap.size + 1) => (unhide HN1 b hb).2.1 e)
        have hQ9 := (hF9.block w.heap.size (by omega) (by omega)).trans (unhide HQ8)
        have hH9 : W9.heap[w.heap.size + 1]? = some (.cells #[.int .i64 (0), .int .i64 ((CL : Int)), .int .i64 (0), .int .i64 (-1)] 54 (0, 0)) := by rw [← unhide hW9, setCell_block (unhide HH8)]; rfl
        have hxn : (xs.set k (⟨f.name, f.params, f.locals, .slice ia CL ic, .slice (some ⟨hg, ho, none⟩) (m + 1) vcap⟩ : Fv))[k]? = some (⟨f.name, f.params, f.locals, .slice ia CL ic, .slice (some ⟨hg, ho, none⟩) (m + 1) vcap⟩ : Fv) := List.getElem?_set_self hxkl
        have hfn : (p.funcs.set k { f with hs := f.hs ++ [(⟨0, (CL : Int), 0, 0⟩ : Hd)] })[k]? = some { f with hs := f.hs ++ [(⟨0, (CL : Int), 0, 0⟩ : Hd)] } := List.getElem?_set_self (List.getElem?_eq_some_iff.1 (unhide HFKK)).1
        have hap := hO9.pt.apart k _ hg hxn (.inr rfl)
        have hin : inO (.slice cc NC cca) (.slice (some ⟨fg, fo, none⟩) NF fcc) (xs.set k (⟨f.name, f.params, f.locals, .slice ia CL ic, .slice (some ⟨hg, ho, none⟩) (m + 1) vcap⟩ : Fv)) hg := .inr (.inr ⟨k, _, hxn, .inr rfl⟩)
        have hgQ : hg ≠ w.heap.size := (unhide HN1 hg hin).1
        have hgH : hg ≠ w.heap.size + 1 := (unhide HN1 hg hin).2.1
        have hgB : B ≤ hg := (unhide HN1 hg hin).2.2
        have hgF : hg ≠ fg := fun e => hap.2.2 (by rw [e]; rfl)
        have y1 : W9.cell? ⟨w.heap.size, 1, none⟩ = some (.slice (some ⟨fg, fo, none⟩) NF fcc) := by simp [World.cell?, hQ9]
        have y0 : W9.cell? ⟨w.heap.size, 0, none⟩ = some (.slice cc NC cca) := by simp [World.cell?, hQ9]
        have yl : w.heap.size < W9.heap.size := (Array.getElem?_eq_some_iff.1 hQ9).1
        have u0 : W9.cell? ⟨w.heap.size + 1, 0, none⟩ = some (.int .i64 (0)) := by simp [World.cell?, hH9]
        have u1 : W9.cell? ⟨w.heap.size + 1, 1, none⟩ = some (.int .i64 ((CL : Int))) := by simp [World.cell?, hH9]
        have u2 : W9.cell? ⟨w.heap.size + 1, 2, none⟩ = some (.int .i64 (0)) := by simp [World.cell?, hH9]
        have u3 : W9.cell? ⟨w.heap.size + 1, 3, none⟩ = some (.int .i64 (-1)) := by simp [World.cell?, hH9]
        have yhl : w.heap.size + 1 < W9.heap.size := (Array.getElem?_eq_some_iff.1 hH9).1
        have hfo9 : Ro W9 5 (.slice (some ⟨fg, fo, none⟩) NF fcc) (xs.set k (⟨f.name, f.params, f.locals, .slice ia CL ic, .slice (some ⟨hg, ho, none⟩) (m + 1) vcap⟩ : Fv)).length (flt enF (xs.set k (⟨f.name, f.params, f.locals, .slice ia CL ic, .slice (some ⟨hg, ho, none⟩) (m + 1) vcap⟩ : Fv))) := hO9.fo
        obtain ⟨_, _, _, e, _, _, yfl, hcs⟩ := (Rx.of_ro hfo9).elem zF hxn
        rw [List.length_set, unhide hNF] at e
        cases e
        have y4 := hcs 4 _ rfl
        have hR9 := (hO9.pt.rows k _ _ hfn hxn).2.2.2.2
        have hq9 : (f.hs ++ [(⟨0, (CL : Int), 0, 0⟩ : Hd)])[m]? = some ⟨0, (CL : Int), 0, 0⟩ := by rw [← unhide hML]; simp
        have hR9z : Ro W9 4 (.slice (some ⟨hg, ho, none⟩) (m + 1) vcap) (m + 1) (flt enH (f.hs ++ [(⟨0, (CL : Int), 0, 0⟩ : Hd)])) := by
          have := hR9
          rw [show ({ f with hs := f.hs ++ [(⟨0, (CL : Int), 0, 0⟩ : Hd)] } : Fc).hs.length = m + 1 by simp [unhide hML]] at this
          exact this
        have yz : ∀ o, W9.frozen? ⟨hg, o, none⟩ = false := fun o => hR9z.free rfl o
        have yz0 := yz (ho + m * 4)
        have yz1 := yz (ho + m * 4 + 1)
        have yz2 := yz (ho + m * 4 + 2)
        have yz3 := yz (ho + m * 4 + 3)
        obtain ⟨_, _, _, e, _, _, ygl, hcs2⟩ := (Rx.of_ro hR9).elem zH (i := m) (p := ⟨0, (CL : Int), 0, 0⟩) hq9
        simp only [List.length_append, unhide hML, List.length_singleton] at e
        cases e
        have g0 := hcs2 0 _ rfl
        have g1 := hcs2 1 _ rfl
        have g2 := hcs2 2 _ rfl
        have g3 := hcs2 3 _ rfl
        rw [Nat.add_zero] at g0
        have hset := hO9.setH (q' := ⟨0, (CL : Int), 0, -1⟩) hxn hfn hq9 rfl
        rw [set_setF, show ({ ({ f with hs := f.hs ++ [(⟨0, (CL : Int), 0, 0⟩ : Hd)] } : Fc) with hs := (f.hs ++ [(⟨0, (CL : Int), 0, 0⟩ : Hd)]).set m ⟨0, (CL : Int), 0, -1⟩ } : Fc) = { f with hs := f.hs ++ [(⟨0, (CL : Int), 0, -1⟩ : Hd)] } by rw [← unhide hML, snoc_set]] at hset
        have fA : Fr (fun b => b = hg) W9 ((((W9.setCell ⟨hg, ho + m * 4, none⟩ (.int .i64 (0))).setCell ⟨hg, ho + m * 4 + 1, none⟩ (.int .i64 ((CL : Int)))).setCell ⟨hg, ho + m * 4 + 2, none⟩ (.int .i64 (0))).setCell ⟨hg, ho + m * 4 + 3, none⟩ (.int .i64 (-1))).drew := Fr.drew (((((Fr.refl (fun b => b = hg) W9).setCell ⟨hg, ho + m * 4, none⟩ (.inr rfl) _).setCell ⟨hg, ho + m * 4 + 1, none⟩ (.inr rfl) _).setCell ⟨hg, ho + m * 4 + 2, none⟩ (.inr rfl) _).setCell ⟨hg, ho + m * 4 + 3, none⟩ (.inr rfl) _)
        have hb9 : Below B w W9 := (unhide HW8).trans (hF9.below (by have := (unhide HW8).size; omega) (fun b hb (e : b = w.heap.size + 1) => by omega))
        have hl9 : Laid W9 := Fr.heldIn hF9 (unhide HL8).pos (by simp) (unhide HL8)
        have HS := hide (unhide HST _ ⟨0, (CL : Int), 0, -1⟩ (hb9.trans (fA.below (by have := hb9.size; omega) (fun b hb (e : b = hg) => by omega))) (by unfold fitB; exact decide_eq_false (fun q => by simp only at q; omega)) (Fr.heldIn fA hl9.pos (fun (e : 0 = hg) => by omega) hl9) (hset.fr (S := fun _ => False) (Fr.drawnW _) (fun _ _ e => e)))
        have hm0 : (0 : Int) ≤ (m : Int) := by omega
        have hmm : (m : Int) < (m : Int) + 1 := by omega
        clear hcs hcs2 hR9 hR9z yz hset fA hb9 hl9 hO9 hQ9 hH9 hxn hfn hap hin hfo9 hq9 hF9
        go_wp2_with fail
        rw [unhide hW9]
        refine wp_region_held_drew (S := fun wx => Fr (fun b => b = hg) W9 wx) (by kernel_rfl) (Fr.drawnW _) (fun hHeld => ?_)
        refine wpAnyH_take (i := 0) (oi := _) (v := .pointer (some ⟨w.heap.size, 1, none⟩)) rfl (by kernel_rfl) (by kernel_rfl) (by kernel_rfl) (fun _ _ _ h => h) (Or.inl ⟨by rfl, (by intro w hSw; go_simp)⟩) (by assumption) ?_
        refine wpAnyH_take (i := 1) (oi := _) (v := .slice (some ⟨fg, fo, none⟩) NF fcc) rfl (by kernel_rfl) (by kernel_rfl) (by kernel_rfl) (fun _ _ _ h => h) (Or.inl ⟨by rfl, (by intro w hSw; have hs0 := Fr.heldIn hSw yl (fun e => hgQ e.symm) y1; go_simp)⟩) (by assumption) ?_
        go_simp
        refine wpAnyH_take (i := 2) (oi := _) (v := .int .i64 (k : Int)) rfl (by kernel_rfl) (by kernel_rfl) (by kernel_rfl) (fun _ _ _ h => h) (Or.inl ⟨by rfl, (by intro w hSw; go_simp)⟩) (by assumption) ?_
        refine wpAnyH_take (i := 3) (oi := _) (v := .pointer (some ⟨fg, fo + k * 5, none⟩)) rfl (by kernel_rfl) (by kernel_rfl) (by kernel_rfl) (fun _ _ _ h => h) (Or.inl ⟨by rfl, (by intro w hSw; go_simp)⟩) (by assumption) ?_
        go_simp
        refine wpAnyH_take (i := 4) (oi := _) (v := .pointer (some ⟨fg, fo + k * 5 + 4, none⟩)) rfl (by kernel_rfl) (by kernel_rfl) (by kernel_rfl) (fun _ _ _ h => h) (Or.inl ⟨by rfl, (by intro w hSw; go_simp)⟩) (by assumption) ?_
        go_simp
        refine wpAnyH_take (i := 5) (oi := _) (v := .slice (some ⟨hg, ho, none⟩) (m + 1) vcap) rfl (by kernel_rfl) (by kernel_rfl) (by kernel_rfl) (fun _ _ _ h => h) (Or.inl ⟨by rfl, (by intro w hSw; have hs0 := Fr.heldIn hSw yfl (fun e => hgF e.symm) y4; go_simp)⟩) (by assumption) ?_
        go_simp
        refine wpAnyH_take (i := 6) (oi := _) (v := .int .i64 (m : Int)) rfl (by kernel_rfl) (by kernel_rfl) (by kernel_rfl) (fun _ _ _ h => h) (Or.inl ⟨by rfl, (by intro w hSw; go_simp)⟩) (by assumption) ?_
        refine wpAnyH_take (i := 7) (oi := _) (v := .agg #[.int .i64 (0), .int .i64 ((CL : Int)), .int .i64 (0), .int .i64 (-1)]) rfl (by kernel_rfl) (by kernel_rfl) (by kernel_rfl) (fun _ _ _ h => h) (Or.inl ⟨by rfl, (by intro w hSw; have hs0 := Fr.heldIn hSw yhl (fun e => hgH e.symm) u0; have hs1 := Fr.heldIn hSw yhl (fun e => hgH e.symm) u1; have hs2 := Fr.heldIn hSw yhl (fun e => hgH e.symm) u2; have hs3 := Fr.heldIn hSw yhl (fun e => hgH e.symm) u3; go_simp)⟩) (by assumption) ?_
        go_simp
        refine wpAnyH_take (i := 8) (oi := _) (v := .pointer (some ⟨hg, ho + m * 4, none⟩)) rfl (by kernel_rfl) (by kernel_rfl) (by kernel_rfl) (fun _ _ _ h => h) (Or.inl ⟨by rfl, (by intro w hSw; have hmn : ¬ ((m : Int) + 1 ≤ (m : Int)) := (by omega); go_simp)⟩) (by assumption) ?_
        go_simp
        refine wpAnyH_ready (rs := [9]) (by kernel_rfl) (by simp) ?_
        refine AllReadyH.cons (o := _) rfl (fun K hK => ?_) AllReadyH.nil
        go_simp
        refine hK.out _ _ (Fr.drew (((((Fr.refl (fun b => b = hg) W9).setCell ⟨hg, ho + m * 4, none⟩ (.inr rfl) _).setCell ⟨hg, ho + m * 4 + 1, none⟩ (.inr rfl) _).setCell ⟨hg, ho + m * 4 + 2, none⟩ (.inr rfl) _).setCell ⟨hg, ho + m * 4 + 3, none⟩ (.inr rfl) _)) (fun hHeld9x => ?_)
        clear hK K
        refine wpAnyH_done (by kernel_rfl) ?_ _
        go_wp2_with fail
        refine (unhide HS).mono ?_
        rintro e w10 ⟨rfl, hw10⟩
        go_wp2_with fail
        go_ret
        exact ⟨rfl, hw10⟩
end
end Go.Proofs.YtfaafamdjcojlaaDoor
