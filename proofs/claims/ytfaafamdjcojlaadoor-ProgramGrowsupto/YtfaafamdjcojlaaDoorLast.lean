/-
  The last instruction of the first function is written over.
-/
import Derived.Test.YtfaafamdjcojlaaDoorCopyP
namespace Go.Proofs.YtfaafamdjcojlaaDoor
open Go.RowKit
set_option linter.unusedVariables false
set_option linter.unusedSimpArgs false
set_option maxRecDepth 100000
/-- The program then. -/
def lastP (p : Pg) (op : Int) : Pg := match p.funcs[0]? with
  | some f => if f.code.length = 0 then p else { p with funcs := p.funcs.set 0 { f with code := f.code.set (f.code.length - 1) (op, 0) } }
  | none => p
theorem Fr.drawnW {S : Nat → Prop} (w : World) : Fr S w w.drew := ⟨rfl, rfl, rfl, Nat.le_refl _, fun _ _ _ => rfl⟩
theorem Fr.heldIn {S : Nat → Prop} {w a : World} (h : Fr S w a) {p : Addr} {v : Value} (hp : p.block < w.heap.size) (hn : ¬ S p.block) (hc : w.cell? p = some v) : a.cell? p = some v := (h.cell hp hn).trans hc
/-- A list of a function is written over in one place. -/
theorem OP.setI {B : Nat} {p : Pg} {xs : List Fv} {cv fv : Value} {wr : World} (h : OP B p xs cv fv wr) {k n cg co ccap m : Nat} {f : Fc} {x : Fv} {q q' : Int × Int} (hx : xs[k]? = some x) (hf : p.funcs[k]? = some f) (hq : f.code[n]? = some q) (e : x.cv = .slice (some ⟨cg, co, none⟩) m ccap) :
    OP B { p with funcs := p.funcs.set k { f with code := f.code.set n q' } } xs cv fv ((wr.setCell ⟨cg, co + n * 2, none⟩ (.int .i64 q'.1)).setCell ⟨cg, co + n * 2 + 1, none⟩ (.int .i64 q'.2)) := by
  have hF := h.pt.rows k f x hf hx
  have hP := (hF.2.2.2.1.part zI (x' := q') (j := 0) (vs := enI q') e hq (by simp [enI]) (fun i hi => by
        rw [if_pos (by simp [enI]; omega)]; rfl)).1
  have hst : wr.setCells cg (co + n * 2 + 0) (enI q') = (wr.setCell ⟨cg, co + n * 2, none⟩ (.int .i64 q'.1)).setCell ⟨cg, co + n * 2 + 1, none⟩ (.int .i64 q'.2) := rfl
  rw [hst] at hP
  have fr : Fr (fun b => x.cv.ownBlock = some b ∨ x.hv.ownBlock = some b) wr ((wr.setCell ⟨cg, co + n * 2, none⟩ (.int .i64 q'.1)).setCell ⟨cg, co + n * 2 + 1, none⟩ (.int .i64 q'.2)) :=
    ((Fr.refl (fun b => x.cv.ownBlock = some b ∨ x.hv.ownBlock = some b) wr).setCell ⟨cg, co + n * 2, none⟩ (.inr (.inl (by rw [e]; rfl))) _).setCell ⟨cg, co + n * 2 + 1, none⟩ (.inr (.inl (by rw [e]; rfl))) _
  have hne : ∀ b, x.hv.ownBlock = some b → b ≠ cg := fun b hb e2 => ((h.pt.each k k x x b hx hx).1 (by rw [e, e2]; rfl)).1 hb
  refine h.setRow hx hf fr ⟨hF.1, hF.2.1, hF.2.2.1, by simpa using hP, ?_⟩
  exact hF.2.2.2.2.fr (((Fr.refl (fun b => b = cg) wr).setCell ⟨cg, co + n * 2, none⟩ (.inr rfl) _).setCell ⟨cg, co + n * 2 + 1, none⟩ (.inr rfl) _) hne
set_option maxHeartbeats 6400000 in
theorem last_any {w : World} {B : Nat} {p : Pg} {xs : List Fv} {cv fv : Value} (h : OP B p xs cv fv w) (op : Int) : Calls Tryd.prog 13 #[.agg #[cv, fv], .int .i64 op] w fun e w' => e = .returned (.tuple #[]) ∧ OP B (lastP p op) xs cv fv w' ∧ Fr (fun b => inO cv fv xs b) w w' := by
  have hW : ∀ X, Below w.heap.size w (w.alloc X) := fun X => (Below.refl _ _).alloc (Nat.le_refl _) _
  have hxl2 := h.pt.xl
  have Hh := hide h
  obtain ⟨ca, cc, ec, _⟩ := h.co.shape
  obtain ⟨fa, fc, ef, hfl, hfm⟩ := h.fo.shape
  subst ec ef
  obtain ⟨NF, hNF⟩ : ∃ N, xs.length = N := ⟨_, rfl⟩
  obtain ⟨NC, hNC⟩ : ∃ N, p.consts.length = N := ⟨_, rfl⟩
  rw [hNF] at hxl2 hfl Hh ⊢
  rw [hNC] at Hh ⊢
  clear h
  cases hf0 : p.funcs[0]? with
  | none =>
    have hlp : lastP p op = p := by unfold lastP; rw [hf0]
    have hn0 : NF = 0 := by rw [hxl2]; exact List.length_eq_zero_iff.2 (by cases e : p.funcs with | nil => rfl | cons a r => rw [e] at hf0; simp at hf0)
    subst hn0
    have HR : Hid (∀ X, OP B (lastP p op) xs (.slice ca NC cc) (.slice fa 0 fc) (w.alloc X) ∧ Fr (fun b => inO (.slice ca NC cc) (.slice fa 0 fc) xs b) w (w.alloc X)) := fun X => by rw [hlp]; exact ⟨(unhide Hh).keep (hW X), Fr.of_below (hW X)⟩
    clear hxl2 hW
    go_enter Tryd.func13, Tryd.ntmps13
    go_wp2_with fail
    go_end0
    exact ⟨rfl, unhide HR _⟩
  | some f =>
    have hpos := (List.getElem?_eq_some_iff.1 hf0).1
    obtain ⟨x, hx⟩ : ∃ x, xs[0]? = some x := ⟨_, List.getElem?_eq_getElem (by omega)⟩
    have hF := (unhide Hh).pt.rows 0 f x hf0 hx
    obtain ⟨a1, c1, a2, c2, rfl⟩ := hF.fnv.parts
    have xc := (Rx.of_ro (unhide Hh).fo).elem zF hx
    rw [hNF] at xc
    obtain ⟨g, off, _, ex, _, _, hgl, xc⟩ := xc
    cases ex
    have x3 := xc 3 _ rfl
    simp only [Nat.zero_mul, Nat.add_zero] at x3
    clear xc
    have hNF0 : 0 < NF := by omega
    have hi1 : (0 : Int) < (NF : Int) := by omega
    have hfm' : NF ≤ 9223372036854775807 := Nat.le_trans hfl hfm
    by_cases hc0 : f.code.length = 0
    · have hlp : lastP p op = p := by unfold lastP; rw [hf0]; simp [hc0]
      have HR : Hid (∀ X, OP B (lastP p op) xs (.slice ca NC cc) (.slice (some ⟨g, off, none⟩) NF fc) (w.alloc X) ∧ Fr (fun b => inO (.slice ca NC cc) (.slice (some ⟨g, off, none⟩) NF fc) xs b) w (w.alloc X)) := fun X => by rw [hlp]; exact ⟨(unhide Hh).keep (hW X), Fr.of_below (hW X)⟩
      rw [hc0] at x3
      clear hF hW hx hf0 hxl2
      go_enter Tryd.func13, Tryd.ntmps13
      go_wp2_with fail
      go_end0
      exact ⟨rfl, unhide HR _⟩
    · have hfc : 0 < f.code.length := by omega
      obtain ⟨cg, co, ccap, ecg, hcc, hcm, hcl, hcell⟩ := hF.2.2.2.1.full hfc
      cases ecg
      have hap := (unhide Hh).pt.apart 0 _ cg hx (.inl rfl)
      have hnf : g ≠ cg := fun e => hap.2.2 (by rw [e]; rfl)
      obtain ⟨q, hq⟩ : ∃ q, f.code[f.code.length - 1]? = some q := ⟨_, List.getElem?_eq_getElem (by omega)⟩
      have hfz : ∀ o, w.frozen? ⟨cg, o, none⟩ = false := fun o => hF.2.2.2.1.free rfl o
      obtain ⟨CL, hCL⟩ : ∃ N, f.code.length = N := ⟨_, rfl⟩
      have hcx : ∀ j, j < CL * 2 → ∃ o, w.cell? ⟨cg, co + j, none⟩ = some o := fun j hj => by
        rw [← hCL] at hj
        rw [hcell j hj]; exact ⟨_, List.getElem?_eq_getElem (by rw [flt_length zI]; exact hj)⟩
      rw [hCL] at hfc x3 hcc hq
      obtain ⟨N, hN⟩ : ∃ N, CL - 1 = N := ⟨_, rfl⟩
      have hCN : CL = N + 1 := by omega
      rw [hN] at hq
      have hlp : lastP p op = { p with funcs := p.funcs.set 0 { f with code := f.code.set N (op, 0) } } := by unfold lastP; rw [hf0]; show (if f.code.length = 0 then _ else _) = _; rw [if_neg hc0, hCL, hN]
      obtain ⟨o0, w0⟩ := hcx (N * 2) (by omega)
      obtain ⟨o1, w1⟩ := hcx (N * 2 + 1) (by omega)
      rw [← Nat.add_assoc] at w1
      have z0 := hfz (co + N * 2)
      have z1 := hfz (co + N * 2 + 1)
      have hbw : g < w.heap.size := hgl
      have bx1 : (w.alloc (.cells #[.slice ca NC cc, .slice (some ⟨g, off, none⟩) NF fc] 25)).cell? ⟨w.heap.size, 1, none⟩ = some (.slice (some ⟨g, off, none⟩) NF fc) := (box2 (Below.refl _ _)).2.1
      have bx3 : (w.alloc (.cells #[.slice ca NC cc, .slice (some ⟨g, off, none⟩) NF fc] 25)).cell? ⟨g, off + 3, none⟩ = some (.slice (some ⟨cg, co, none⟩) CL c1) := (World.cell?_of_block (Below.heap_alloc _ _ _ hgl)).trans x3
      have HR : Hid (OP B (lastP p op) xs (.slice ca NC cc) (.slice (some ⟨g, off, none⟩) NF fc) (((w.alloc (.cells #[.slice ca NC cc, .slice (some ⟨g, off, none⟩) NF fc] 25)).drew.setCell ⟨cg, co + N * 2, none⟩ (.int .i64 op)).setCell ⟨cg, co + N * 2 + 1, none⟩ (.int .i64 0)) ∧ Fr (fun b => inO (.slice ca NC cc) (.slice (some ⟨g, off, none⟩) NF fc) xs b) w (((w.alloc (.cells #[.slice ca NC cc, .slice (some ⟨g, off, none⟩) NF fc] 25)).drew.setCell ⟨cg, co + N * 2, none⟩ (.int .i64 op)).setCell ⟨cg, co + N * 2 + 1, none⟩ (.int .i64 0))) := by
        rw [hlp]
        have hk := ((unhide Hh).keep (hW (.cells #[.slice ca NC cc, .slice (some ⟨g, off, none⟩) NF fc] 25))).fr (S := fun _ => False) (Fr.drawnW _) (fun _ _ e => e)
        refine ⟨hk.setI (q' := (op, 0)) hx hf0 hq rfl, ?_⟩
        have hin : inO (.slice ca NC cc) (.slice (some ⟨g, off, none⟩) NF fc) xs cg := .inr (.inr ⟨0, _, hx, .inl rfl⟩)
        exact (((Fr.of_below (hW _)).drew).setCell ⟨cg, co + N * 2, none⟩ (.inr hin) _).setCell ⟨cg, co + N * 2 + 1, none⟩ (.inr hin) _
      have hN0 : (0 : Int) ≤ (N : Int) := by omega
      have hN1 : (N : Int) < (CL : Int) := by omega
      have hCm : CL ≤ 9223372036854775807 := Nat.le_trans hcc hcm
      have hCi : (0 : Int) < (CL : Int) := by omega
      have hsub : ((CL : Int) - 1) = (N : Int) := by omega
      have hbl : cg < w.heap.size := hcl
      clear hF hW hx hf0 hcell hcx hfz hq hlp hxl2 hpos hcc hc0 hCL hap
      go_enter Tryd.func13, Tryd.ntmps13
      go_wp2_with fail
      refine wp_region_held_drew (S := (fun wx => Fr (fun b => b = cg) (w.alloc (.cells #[.slice ca NC cc, .slice (some ⟨g, off, none⟩) NF fc] 25)) wx)) (by kernel_rfl) (Fr.drawnW _) (fun hHeld => ?_)
      refine wpAnyH_take (i := 0) (oi := _) (v := .pointer (some ⟨w.heap.size, 1, none⟩)) rfl (by kernel_rfl) (by kernel_rfl) (by kernel_rfl) (fun _ _ _ h => h) (Or.inl ⟨by rfl, (by intro w hSw; go_simp)⟩) (by assumption) ?_
      refine wpAnyH_take (i := 1) (oi := _) (v := .slice (some ⟨g, off, none⟩) NF fc) rfl (by kernel_rfl) (by kernel_rfl) (by kernel_rfl) (fun _ _ _ h => h) (Or.inl ⟨by rfl, (by intro w hSw; have hs0 := Fr.heldIn hSw (by simp) (by simp; omega) bx1; go_simp)⟩) (by assumption) ?_
      go_simp
      refine wpAnyH_take (i := 2) (oi := _) (v := .pointer (some ⟨g, off, none⟩)) rfl (by kernel_rfl) (by kernel_rfl) (by kernel_rfl) (fun _ _ _ h => h) (Or.inl ⟨by rfl, (by intro w hSw; go_simp)⟩) (by assumption) ?_
      refine wpAnyH_take (i := 3) (oi := _) (v := .pointer (some ⟨g, off + 3, none⟩)) rfl (by kernel_rfl) (by kernel_rfl) (by kernel_rfl) (fun _ _ _ h => h) (Or.inl ⟨by rfl, (by intro w hSw; go_simp)⟩) (by assumption) ?_
      go_simp
      refine wpAnyH_take (i := 4) (oi := _) (v := .slice (some ⟨cg, co, none⟩) CL c1) rfl (by kernel_rfl) (by kernel_rfl) (by kernel_rfl) (fun _ _ _ h => h) (Or.inl ⟨by rfl, (by intro w hSw; have hs0 := Fr.heldIn hSw (by simp; omega) (by simp; omega) bx3; go_simp)⟩) (by assumption) ?_
      go_simp
      refine wpAnyH_take (i := 5) (oi := _) (v := .pointer (some ⟨w.heap.size, 1, none⟩)) rfl (by kernel_rfl) (by kernel_rfl) (by kernel_rfl) (fun _ _ _ h => h) (Or.inl ⟨by rfl, (by intro w hSw; go_simp)⟩) (by assumption) ?_
      refine wpAnyH_take (i := 6) (oi := _) (v := .slice (some ⟨g, off, none⟩) NF fc) rfl (by kernel_rfl) (by kernel_rfl) (by kernel_rfl) (fun _ _ _ h => h) (Or.inl ⟨by rfl, (by intro w hSw; have hs0 := Fr.heldIn hSw (by simp) (by simp; omega) bx1; go_simp)⟩) (by assumption) ?_
      go_simp
      refine wpAnyH_take (i := 7) (oi := _) (v := .pointer (some ⟨g, off, none⟩)) rfl (by kernel_rfl) (by kernel_rfl) (by kernel_rfl) (fun _ _ _ h => h) (Or.inl ⟨by rfl, (by intro w hSw; go_simp)⟩) (by assumption) ?_
      refine wpAnyH_take (i := 8) (oi := _) (v := .pointer (some ⟨g, off + 3, none⟩)) rfl (by kernel_rfl) (by kernel_rfl) (by kernel_rfl) (fun _ _ _ h => h) (Or.inl ⟨by rfl, (by intro w hSw; go_simp)⟩) (by assumption) ?_
      go_simp
      refine wpAnyH_take (i := 9) (oi := _) (v := .slice (some ⟨cg, co, none⟩) CL c1) rfl (by kernel_rfl) (by kernel_rfl) (by kernel_rfl) (fun _ _ _ h => h) (Or.inl ⟨by rfl, (by intro w hSw; have hs0 := Fr.heldIn hSw (by simp; omega) (by simp; omega) bx3; go_simp)⟩) (by assumption) ?_
      go_simp
      refine wpAnyH_take (i := 10) (oi := _) (v := .int .i64 (CL : Int)) rfl (by kernel_rfl) (by kernel_rfl) (by kernel_rfl) (fun _ _ _ h => h) (Or.inl ⟨by rfl, (by intro w hSw; go_simp)⟩) (by assumption) ?_
      go_simp
      refine wpAnyH_take (i := 11) (oi := _) (v := .int .i64 (N : Int)) rfl (by kernel_rfl) (by kernel_rfl) (by kernel_rfl) (fun _ _ _ h => h) (Or.inl ⟨by rfl, (by intro w hSw; have hNw : IntKind.i64.wrap (N : Int) = (N : Int) := (by rw [IntKind.wrap_i64]; omega); go_simp)⟩) (by assumption) ?_
      go_simp
      refine wpAnyH_take (i := 12) (oi := _) (v := .int .i64 op) rfl (by kernel_rfl) (by kernel_rfl) (by kernel_rfl) (fun _ _ _ h => h) (Or.inl ⟨by rfl, (by intro w hSw; go_simp)⟩) (by assumption) ?_
      refine wpAnyH_take (i := 13) (oi := _) (v := .agg #[.int .i64 op, .int .i64 0]) rfl (by kernel_rfl) (by kernel_rfl) (by kernel_rfl) (fun _ _ _ h => h) (Or.inl ⟨by rfl, (by intro w hSw; go_simp)⟩) (by assumption) ?_
      go_simp
      refine wpAnyH_take (i := 14) (oi := _) (v := .pointer (some ⟨cg, co + N * 2, none⟩)) rfl (by kernel_rfl) (by kernel_rfl) (by kernel_rfl) (fun _ _ _ h => h) (Or.inl ⟨by rfl, (by intro w hSw; have hno : ¬ ((N : Int) + 1 ≤ (N : Int)) := (by omega); go_simp)⟩) (by assumption) ?_
      go_simp
      refine wpAnyH_ready (rs := [15]) (by kernel_rfl) (by simp) ?_
      refine AllReadyH.cons (o := _) rfl (fun K hK => ?_) AllReadyH.nil
      go_simp
      rw [show ((((w.setCell ⟨cg, co + N * 2, none⟩ (Value.int IntKind.i64 op)).setCell ⟨cg, co + N * 2 + 1, none⟩ (Value.int IntKind.i64 0)).alloc (Obj.cells #[Value.slice ca NC cc, Value.slice (some ⟨g, off, none⟩) NF fc] 25)).drew) = ((w.alloc (.cells #[.slice ca NC cc, .slice (some ⟨g, off, none⟩) NF fc] 25)).drew.setCell ⟨cg, co + N * 2, none⟩ (.int .i64 op)).setCell ⟨cg, co + N * 2 + 1, none⟩ (.int .i64 0) by go_simp]
      refine hK.out _ _ (((Fr.drawnW (S := fun b => b = cg) _).setCell ⟨cg, co + N * 2, none⟩ (.inr rfl) _).setCell ⟨cg, co + N * 2 + 1, none⟩ (.inr rfl) _) (fun hHeld6 => ?_)
      clear hK K
      refine wpAnyH_done (by kernel_rfl) ?_ _
      clear hHeld hHeld6
      go_wp2_with fail
      go_end0
      exact ⟨rfl, unhide HR⟩
end Go.Proofs.YtfaafamdjcojlaaDoor
