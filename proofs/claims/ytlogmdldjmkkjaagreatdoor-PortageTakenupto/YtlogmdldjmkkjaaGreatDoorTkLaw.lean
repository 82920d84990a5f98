/-
  PortageTaken holds.
-/
import Derived.Test.YtlogmdldjmkkjaaGreatDoorVPrg
import Derived.Test.YtlogmdldjmkkjaaGreatDoorVTab2
import Derived.Test.YtlogmdldjmkkjaaGreatDoorDDe
import Derived.Test.YtlogmdldjmkkjaaGreatDoorSh1
import Derived.Test.YtlogmdldjmkkjaaGreatDoorByt
import Derived.Test.YtlogmdldjmkkjaaGreatDoorRCheck
import Derived.Test.YtlogmdldjmkkjaaGreatDoorTPrg
import Derived.Test.YtlogmdldjmkkjaaGreatDoorSPm
namespace Go.Proofs.YtlogmdldjmkkjaaGreatDoor
open Go.RowKit
set_option linter.unusedVariables false
set_option linter.unusedSimpArgs false
set_option maxRecDepth 100000
theorem FcR.low {B B' : Nat} {w : World} {hv mv : Value} {Ls : List (List Int)} (h : FcR B w hv mv Ls) (q : B' ≤ B) : FcR B' w hv mv Ls := by
  obtain ⟨vs, h1, h2, h3, h4, h5⟩ := h
  exact ⟨vs, h1, fun i l u a b => ⟨(h2 i l u a b).1, fun k hk => Nat.le_trans q ((h2 i l u a b).2 k hk)⟩, h3, fun k hk => Nat.le_trans q (h4 k hk), fun k hk => Nat.le_trans q (h5 k hk)⟩
theorem FcR.fr {S : Nat → Prop} {B : Nat} {w w' : World} {hv mv : Value} {Ls : List (List Int)} (h : FcR B w hv mv Ls) (f : Fr S w w') (hn : ∀ k, B ≤ k → ¬ S k) : FcR B w' hv mv Ls := by
  obtain ⟨vs, h1, h2, h3, h4, h5⟩ := h
  exact ⟨vs, h1.fr f (fun k hk => hn k (h4 k hk)), fun i l u a b => ⟨(h2 i l u a b).1.fr f (fun k hk => hn k ((h2 i l u a b).2 k hk)), (h2 i l u a b).2⟩, h3.fr f (fun k hk => hn k (h5 k hk)), h4, h5⟩
theorem FcR.shape {B : Nat} {w : World} {hv mv : Value} {Ls : List (List Int)} (h : FcR B w hv mv Ls) : ∃ ha hc ma mc, hv = .slice ha Ls.length hc ∧ mv = .slice ma Ls.length mc := by
  obtain ⟨vs, h1, h2, h3, h4, h5⟩ := h
  obtain ⟨ha, hc, e1, _⟩ := h1.shape
  obtain ⟨ma, mc, e2, _⟩ := h3.shape
  exact ⟨ha, hc, ma, mc, e1, e2⟩
theorem VpR.cases {p : Pg} {L : Option (List (List Int))} {k a er : Int} (h : VpR p L k a er) : (L = none ∧ er ≠ 0) ∨ ∃ Ls, L = some Ls ∧ k = 0 ∧ a = 0 ∧ er = 0 ∧ Ls.length = p.funcs.length := by
  rcases h with ⟨y, _, _, h1, h2⟩ | ⟨_, i, f, _, _, h1, h2, _⟩ | ⟨_, h1, h2, h3, Ls, h4, h5, _⟩
  · exact .inl ⟨h1, h2⟩
  · exact .inl ⟨h1, h2⟩
  · exact .inr ⟨Ls, h4, h1, h2, h3, h5⟩
/-- Two boxes, written over. -/
theorem put4 {W : World} {a c : Nat} {u0 u1 v0 v1 : Value} (hA : Bx W 2 a [u0, u1]) (hC : Bx W 2 c [v0, v1]) (hne : a ≠ c) (x y s t : Value) :
    Bx ((((W.setCell ⟨a, 0, none⟩ x).setCell ⟨a, 1, none⟩ y).setCell ⟨c, 0, none⟩ s).setCell ⟨c, 1, none⟩ t) 2 a [x, y] ∧ Bx ((((W.setCell ⟨a, 0, none⟩ x).setCell ⟨a, 1, none⟩ y).setCell ⟨c, 0, none⟩ s).setCell ⟨c, 1, none⟩ t) 2 c [s, t] ∧ Fr (fun k => k = a ∨ k = c) W ((((W.setCell ⟨a, 0, none⟩ x).setCell ⟨a, 1, none⟩ y).setCell ⟨c, 0, none⟩ s).setCell ⟨c, 1, none⟩ t) := by
  have a1 := (hA.set (j := 0) (by omega) x).set (j := 1) (by omega) y
  have f1 := fr_set W a 0 x
  have f2 := fr_set (W.setCell ⟨a, 0, none⟩ x) a 1 y
  have f3 := fr_set ((W.setCell ⟨a, 0, none⟩ x).setCell ⟨a, 1, none⟩ y) c 0 s
  have f4 := fr_set (((W.setCell ⟨a, 0, none⟩ x).setCell ⟨a, 1, none⟩ y).setCell ⟨c, 0, none⟩ s) c 1 t
  have c1 := ((hC.fr f1 (by omega)).fr f2 (by omega)).set (j := 0) (by omega) s |>.set (j := 1) (by omega) t
  refine ⟨(a1.fr f3 (by omega)).fr f4 (by omega), c1, ?_⟩
  exact (((f1.mono (fun _ _ e => .inl e)).step f2 (fun _ _ e => .inl e)).step f3 (fun _ _ e => .inr e)).step f4 (fun _ _ e => .inr e)
/-- What Load answers. -/
def LdR (B : List Int) (w w' : World) (cv fv hv mv : Value) (er : Int) : Prop :=
  (er ≠ 0 ∧ cv = .slice none 0 0 ∧ fv = .slice none 0 0 ∧ hv = .slice none 0 0 ∧ mv = .slice none 0 0 ∧ ((decP B).2 ≠ 0 ∧ er = (decP B).2 ∨ (decP B).2 = 0 ∧ ∃ k a, VpR (decP B).1 none k a er)) ∨
  (er = 0 ∧ (decP B).2 = 0 ∧ PW w w' cv fv (decP B).1 ∧ ∃ Ls, VpR (decP B).1 (some Ls) 0 0 0 ∧ FcR w.heap.size w' hv mv Ls)
set_option maxHeartbeats 6400000 in
theorem load_any {w : World} {v : Value} {B : List Int} (hR : Rd w v B) (hB : BOk B) (hN : B.length ≤ 140737488355328) (hl : Laid w) :
    Calls Tryz.prog 26 #[v] w fun e w' => ∃ ca cn cc fa fn fc ha hn hc ma mn mc er, e = .returned (.tuple #[.agg #[.slice ca cn cc, .slice fa fn fc], .agg #[.slice ha hn hc, .slice ma mn mc], .int .i64 er]) ∧ Below w.heap.size w w' ∧ LdR B w w' (.slice ca cn cc) (.slice fa fn fc) (.slice ha hn hc) (.slice ma mn mc) er := by
  have gl : 0 < w.heap.size := World.block_lt_of_cell? _ _ hl
  have HL := hide hl
  have HG := hide gl
  have OB := hide hB
  have NB := hide hN
  obtain ⟨va, vc, rfl⟩ := hR.shapeR
  obtain ⟨N, hNN⟩ : ∃ N, Hid (B.length = N) := ⟨_, rfl⟩
  rw [unhide hNN] at hR hN ⊢
  obtain ⟨W1, eW1⟩ : ∃ W1, Hid (W1 = (w.alloc (.cells #[.slice none 0 0, .slice none 0 0] 25)).alloc (.cells #[.slice none 0 0, .slice none 0 0] 57)) := ⟨_, rfl⟩
  have A1 : Hid (Bx W1 2 w.heap.size [.slice none 0 0, .slice none 0 0]) := by rw [unhide eW1]; exact (Bx.new (w := w) (arr := #[.slice none 0 0, .slice none 0 0]) (t := 25) rfl rfl).fr (S := fun _ => False) ((Fr.refl _ _).alloc _) (fun e => e)
  have C1 : Hid (Bx W1 2 (w.heap.size + 1) [.slice none 0 0, .slice none 0 0]) := by rw [unhide eW1]; exact Bx.new rfl (by simp)
  have F1 : Hid (Below w.heap.size w W1) := by rw [unhide eW1]; exact ((Below.refl _ w).alloc (Nat.le_refl _) _).alloc (by simp) _
  have R1 : Hid (Rd W1 (.slice va N vc) B) := hR.bl (unhide F1)
  have S1 : Hid (w.heap.size + 2 ≤ W1.heap.size) := by unfold Hid; rw [unhide eW1]; simp
  clear hR hB hN hl gl
  go_enter Tryz.func26, Tryz.ntmps26
  go_wp2_with fail
  rw [← unhide eW1]
  clear eW1
  refine (decP_any (unhide R1) (unhide OB) (unhide NB) ((unhide HL).blw (unhide F1) (unhide HG))).mono ?_
  rintro e W2 ⟨pa, pn, pc, qa, qn, qc, rfl, hb2, hp2, -⟩
  have A2 : Hid (Bx W2 2 w.heap.size [.slice none 0 0, .slice none 0 0]) := (unhide A1).fr (S := fun _ => False) (Fr.of_below hb2) (fun e => e)
  have C2 : Hid (Bx W2 2 (w.heap.size + 1) [.slice none 0 0, .slice none 0 0]) := (unhide C1).fr (S := fun _ => False) (Fr.of_below hb2) (fun e => e)
  have F2 : Hid (Below w.heap.size w W2) := (unhide F1).trans (hb2.mono (unhide F1).size)
  obtain ⟨d, hd⟩ : ∃ d, Hid ((decP B).2 = d) := ⟨_, rfl⟩
  rw [unhide hd] at hp2 ⊢
  have P2 : Hid (d = 0 → PW W1 W2 (.slice pa pn pc) (.slice qa qn qc) (decP B).1) := fun q => hp2 q
  have S2 := hide hb2.size
  clear A1 C1 R1 hb2 hp2 F1
  obtain ⟨W3, eW3⟩ : ∃ W3, Hid (W3 = W2.alloc (.cells #[.slice pa pn pc, .slice qa qn qc] 25)) := ⟨_, rfl⟩
  have hb3 : Below W2.heap.size W2 W3 := by rw [unhide eW3]; exact (Below.refl _ _).alloc (Nat.le_refl _) _
  obtain ⟨b3, eb3⟩ : ∃ b, Hid (W2.heap.size = b) := ⟨_, rfl⟩
  have B3 : Hid (Bx W3 2 b3 [.slice pa pn pc, .slice qa qn qc]) := by rw [unhide eW3]; exact Bx.new rfl (unhide eb3)
  have A3 : Hid (Bx W3 2 w.heap.size [.slice none 0 0, .slice none 0 0]) := (unhide A2).fr (S := fun _ => False) (Fr.of_below hb3) (fun e => e)
  have C3 : Hid (Bx W3 2 (w.heap.size + 1) [.slice none 0 0, .slice none 0 0]) := (unhide C2).fr (S := fun _ => False) (Fr.of_below hb3) (fun e => e)
  have F3 : Hid (Below w.heap.size w W3) := (unhide F2).trans (hb3.mono (unhide F2).size)
  have P3 : Hid (d = 0 → PW W1 W3 (.slice pa pn pc) (.slice qa qn qc) (decP B).1) := fun q => (unhide P2 q).fr (S := fun _ => False) (Fr.of_below hb3) (fun _ _ e => e)
  have S3 := hide hb3.size
  have L3 : Hid (w.heap.size + 1 < b3) := by have := (unhide C2).lt; have := unhide eb3; unfold Hid; omega
  clear P2 hb3
  by_cases q : d = 0
  case neg =>
    have i1 : (d != 0) = true := by simpa using q
    have m0 := (unhide A2).cell (j := 0) rfl
    have m1 := (unhide A2).cell (j := 1) rfl
    have n0 := (unhide C2).cell (j := 0) rfl
    have n1 := (unhide C2).cell (j := 1) rfl
    have y0 := (unhide A2).free 0
    have y1 := (unhide A2).free 1
    have x0 := (unhide C2).free 0
    have x1 := (unhide C2).free 1
    have lA := (unhide A2).lt
    have lC := (unhide C2).lt
    have HP := hide (put4 (unhide A2) (unhide C2) (by omega) (.slice none 0 0) (.slice none 0 0) (.slice none 0 0) (.slice none 0 0))
    clear eW3
    go_wp2_with fail
    obtain ⟨Z, eZ⟩ : ∃ Z, Hid (Z = (((W2.setCell ⟨w.heap.size, 0, none⟩ (.slice none 0 0)).setCell ⟨w.heap.size, 1, none⟩ (.slice none 0 0)).setCell ⟨w.heap.size + 1, 0, none⟩ (.slice none 0 0)).setCell ⟨w.heap.size + 1, 1, none⟩ (.slice none 0 0)) := ⟨_, rfl⟩
    rw [← unhide eZ] at HP ⊢
    obtain ⟨z1, z2, z3⟩ := unhide HP
    have al : ∀ o : Obj, Fr (fun _ => False) Z (Z.alloc o) := fun o => (Fr.refl _ _).alloc o
    refine bodyPost_ret (results_mix (fn := Tryz.f26) (p := 2) (q := 3) (r := 4) rfl _ _ _ rfl rfl (load27 (z1.fr (al _) (fun e => e))) (load30 (z2.fr (al _) (fun e => e)))) rfl ?_
    refine ⟨none, 0, 0, none, 0, 0, none, 0, 0, none, 0, 0, d, rfl, ?_, .inl ⟨q, rfl, rfl, rfl, rfl, .inl ⟨by rw [unhide hd]; exact q, (unhide hd).symm⟩⟩⟩
    have f1 := (unhide F2).trans (Fr.below z3 (unhide F2).size (fun k hk e => by omega))
    exact f1.trans ((al _).below f1.size (fun _ _ e => e))
  subst q
  have PX3 := hide ((unhide P3) rfl)
  clear A2 C2 F2 P3
  go_wp2_with fail
  rw [← unhide eW3, unhide eb3]
  clear eW3
  refine (program_any (unhide PX3).pgv (decP_ok (unhide hd)).1 ((unhide HL).blw (unhide F3) (unhide HG))).mono ?_
  rintro e W4 ⟨fx, L, k, a, er, rfl, hV, hb4, hn4, hs4⟩
  have A4 : Hid (Bx W4 2 w.heap.size [.slice none 0 0, .slice none 0 0]) := (unhide A3).fr (S := fun _ => False) (Fr.of_below hb4) (fun e => e)
  have C4 : Hid (Bx W4 2 (w.heap.size + 1) [.slice none 0 0, .slice none 0 0]) := (unhide C3).fr (S := fun _ => False) (Fr.of_below hb4) (fun e => e)
  have B4 : Hid (Bx W4 2 b3 [.slice pa pn pc, .slice qa qn qc]) := (unhide B3).fr (S := fun _ => False) (Fr.of_below hb4) (fun e => e)
  have F4 : Hid (Below w.heap.size w W4) := (unhide F3).trans (hb4.mono (unhide F3).size)
  have P4 : Hid (PW W1 W4 (.slice pa pn pc) (.slice qa qn qc) (decP B).1) := (unhide PX3).fr (S := fun _ => False) (Fr.of_below hb4) (fun _ _ e => e)
  have HV := hide hV
  have L4 := hide (unhide F3).size
  have S4 := hide hb4.size
  rcases hV.cases with ⟨rfl, hne⟩ | ⟨Ls, rfl, rfl, rfl, rfl, hlen⟩
  · obtain rfl := hn4 rfl
    clear A3 C3 B3 F3 PX3 hb4 hV hn4 hs4
    have i2 : (er != 0) = true := by simpa using hne
    have m0 := (unhide A4).cell (j := 0) rfl
    have m1 := (unhide A4).cell (j := 1) rfl
    have n0 := (unhide C4).cell (j := 0) rfl
    have n1 := (unhide C4).cell (j := 1) rfl
    have y0 := (unhide A4).free 0
    have y1 := (unhide A4).free 1
    have x0 := (unhide C4).free 0
    have x1 := (unhide C4).free 1
    have lA := (unhide A4).lt
    have lC := (unhide C4).lt
    have HP := hide (put4 (unhide A4) (unhide C4) (by omega) (.slice none 0 0) (.slice none 0 0) (.slice none 0 0) (.slice none 0 0))
    go_wp2_with fail
    obtain ⟨Z, eZ⟩ : ∃ Z, Hid (Z = (((W4.setCell ⟨w.heap.size, 0, none⟩ (.slice none 0 0)).setCell ⟨w.heap.size, 1, none⟩ (.slice none 0 0)).setCell ⟨w.heap.size + 1, 0, none⟩ (.slice none 0 0)).setCell ⟨w.heap.size + 1, 1, none⟩ (.slice none 0 0)) := ⟨_, rfl⟩
    rw [← unhide eZ] at HP ⊢
    obtain ⟨z1, z2, z3⟩ := unhide HP
    have al : ∀ o o' : Obj, Fr (fun _ => False) Z ((Z.alloc o).alloc o') := fun o o' => ((Fr.refl _ _).alloc o).alloc o'
    refine bodyPost_ret (results_mix (fn := Tryz.f26) (p := 2) (q := 3) (r := 4) rfl _ _ _ rfl rfl (load27 (z1.fr (al _ _) (fun e => e))) (load30 (z2.fr (al _ _) (fun e => e)))) rfl ?_
    refine ⟨none, 0, 0, none, 0, 0, none, 0, 0, none, 0, 0, er, rfl, ?_, .inl ⟨hne, rfl, rfl, rfl, rfl, .inr ⟨unhide hd, k, a, unhide HV⟩⟩⟩
    have f1 := (unhide F4).trans (Fr.below z3 (unhide F4).size (fun k hk e => by omega))
    exact f1.trans ((al _ _).below f1.size (fun _ _ e => e))
  · obtain ⟨hv, mv, rfl, hF⟩ := hs4 Ls rfl
    have HF : Hid (FcR W1.heap.size W4 hv mv Ls) := hF.low (Nat.le_trans (unhide S2) (unhide S3))
    obtain ⟨ha, hc, ma, mc, rfl, rfl⟩ := hF.shape
    obtain ⟨M, hM⟩ : ∃ M, Hid (Ls.length = M) := ⟨_, rfl⟩
    rw [unhide hM] at HF ⊢
    obtain ⟨W5, eW5⟩ : ∃ W5, Hid (W5 = (W4.alloc (.cells #[.slice ha M hc, .slice ma M mc] 57)).alloc (.cells #[.int .i64 0, .int .i64 0] 46)) := ⟨_, rfl⟩
    have f5 : Fr (fun _ => False) W4 W5 := by rw [unhide eW5]; exact ((Fr.refl _ _).alloc _).alloc _
    have hA := (unhide A4).fr f5 (fun e => e)
    have hC := (unhide C4).fr f5 (fun e => e)
    have hBp := (unhide B4).fr f5 (fun e => e)
    obtain ⟨g4, eg4⟩ : ∃ b, Hid (W4.heap.size = b) := ⟨_, rfl⟩
    have hG : Bx W5 2 g4 [.slice ha M hc, .slice ma M mc] := by rw [unhide eW5]; exact (Bx.new rfl (unhide eg4)).fr (S := fun _ => False) ((Fr.refl _ _).alloc _) (fun e => e)
    have F5 : Hid (Below w.heap.size w W5) := (unhide F4).trans (f5.below (unhide F4).size (fun _ _ e => e))
    have P5 : Hid (PW W1 W5 (.slice pa pn pc) (.slice qa qn qc) (decP B).1) := (unhide P4).fr f5 (fun _ _ e => e)
    have HF5 : Hid (FcR W1.heap.size W5 (.slice ha M hc) (.slice ma M mc) Ls) := (unhide HF).fr f5 (fun _ _ e => e)
    have L5 : Hid (w.heap.size + 1 < g4) := by have := (unhide C4).lt; have := unhide eg4; unfold Hid; omega
    have p0 := hBp.cell (j := 0) rfl
    have p1 := hBp.cell (j := 1) rfl
    have lB := hBp.lt
    have g0 := hG.cell (j := 0) rfl
    have g1 := hG.cell (j := 1) rfl
    have lG := hG.lt
    have m0 := hA.cell (j := 0) rfl
    have m1 := hA.cell (j := 1) rfl
    have n0 := hC.cell (j := 0) rfl
    have n1 := hC.cell (j := 1) rfl
    have y0 := hA.free 0
    have y1 := hA.free 1
    have x0 := hC.free 0
    have x1 := hC.free 1
    have lA := hA.lt
    have lC := hC.lt
    have Q2 := hide hA
    have Q3 := hide hC
    have dB : Hid (¬ (b3 = w.heap.size ∨ b3 = w.heap.size + 1)) := by have := unhide L3; unfold Hid; omega
    have dG : Hid (¬ (g4 = w.heap.size ∨ g4 = w.heap.size + 1)) := by have := unhide L5; unfold Hid; omega
    have HSt1 : Hid (Fr (fun k => k = w.heap.size ∨ k = w.heap.size + 1) W5 (W5.drew.setCells w.heap.size 0 [.slice pa pn pc, .slice qa qn qc])) := (Fr.refl (fun k => k = w.heap.size ∨ k = w.heap.size + 1) W5).drew.step (setcells_fr _ _ _ _) (fun _ _ e => .inl e)
    have HSt2 : Hid (Fr (fun k => k = w.heap.size ∨ k = w.heap.size + 1) W5 ((W5.drew.setCells w.heap.size 0 [.slice pa pn pc, .slice qa qn qc]).setCells (w.heap.size + 1) 0 [.slice ha M hc, .slice ma M mc])) := (unhide HSt1).step (setcells_fr _ _ _ _) (fun _ _ e => .inr e)
    clear A3 C3 B3 F3 PX3 hb4 hV hn4 hs4 hF A4 C4 B4 F4 P4 HF f5 hA hC hBp hG
    go_wp2_with fail
    rw [← unhide eW5, unhide eg4]
    clear eW5
    refine wp_region_held_drew (S := (fun wx => Fr (fun k => k = w.heap.size ∨ k = w.heap.size + 1) W5 wx)) (by kernel_rfl) ((Fr.refl _ W5).drew) (fun hHeld => ?_)
    refine wpAnyH_take (i := 0) (oi := _) (v := .agg #[.slice pa pn pc, .slice qa qn qc]) rfl (by kernel_rfl) (by kernel_rfl) (by kernel_rfl) (fun _ _ _ h => h) (Or.inl ⟨by rfl, (by intro wx hSw; have q0 := (hSw.cell (a := ⟨b3, 0, none⟩) lB (unhide dB)).trans p0; have q1 := (hSw.cell (a := ⟨b3, 1, none⟩) lB (unhide dB)).trans p1; have lx := Nat.lt_of_lt_of_le lB hSw.size; clear hSw; go_simp)⟩) (by assumption) ?_
    go_simp
    refine wpAnyH_take (i := 1) (oi := _) (v := .agg #[.slice ha M hc, .slice ma M mc]) rfl (by kernel_rfl) (by kernel_rfl) (by kernel_rfl) (fun _ _ _ h => h) (Or.inl ⟨by rfl, (by intro wx hSw; have q0 := (hSw.cell (a := ⟨g4, 0, none⟩) lG (unhide dG)).trans g0; have q1 := (hSw.cell (a := ⟨g4, 1, none⟩) lG (unhide dG)).trans g1; have lx := Nat.lt_of_lt_of_le lG hSw.size; clear hSw; go_simp)⟩) (by assumption) ?_
    go_simp
    refine wpAnyH_ready (rs := [2]) (by kernel_rfl) (by simp) ?_
    refine AllReadyH.cons (o := _) rfl (fun K hK => ?_) AllReadyH.nil
    go_simp
    refine hK.out _ _ (unhide HSt1) (fun hHeld3x => ?_)
    clear hK K
    refine wpAnyH_ready (rs := [3]) (by kernel_rfl) (by simp) ?_
    refine AllReadyH.cons (o := _) rfl (fun K hK => ?_) AllReadyH.nil
    go_simp
    refine hK.out _ _ (unhide HSt2) (fun hHeld4x => ?_)
    clear hK K
    refine wpAnyH_take (i := 4) (oi := _) (v := .int .i64 0) rfl (by kernel_rfl) (by kernel_rfl) (by kernel_rfl) (fun _ _ _ h => h) (Or.inl ⟨by rfl, (by intro w hSw; go_simp)⟩) (by assumption) ?_
    go_simp
    refine wpAnyH_done (by kernel_rfl) ?_ _
    clear hHeld hHeld3x hHeld4x HSt1 HSt2
    have HP := hide (put4 (unhide Q2) (unhide Q3) (by omega) (.slice pa pn pc) (.slice qa qn qc) (.slice ha M hc) (.slice ma M mc))
    obtain ⟨Z, eZ⟩ : ∃ Z, Hid (Z = (((W5.setCell ⟨w.heap.size, 0, none⟩ (.slice pa pn pc)).setCell ⟨w.heap.size, 1, none⟩ (.slice qa qn qc)).setCell ⟨w.heap.size + 1, 0, none⟩ (.slice ha M hc)).setCell ⟨w.heap.size + 1, 1, none⟩ (.slice ma M mc)) := ⟨_, rfl⟩
    rw [← unhide eZ] at HP ⊢
    obtain ⟨z1, z2, z3⟩ := unhide HP
    have al : Fr (fun _ => False) Z Z.drew := (Fr.refl _ _).drew
    have HZ1 := hide (z1.fr al (fun e => e))
    have HZ2 := hide (z2.fr al (fun e => e))
    have HZF : Hid (Below w.heap.size w Z.drew) := by
      have f1 := (unhide F5).trans (Fr.below z3 (unhide F5).size (fun k hk e => by omega))
      exact f1.trans (al.below f1.size (fun _ _ e => e))
    have hno : ∀ k, W1.heap.size ≤ k → ¬ (k = w.heap.size ∨ k = w.heap.size + 1) := fun k hk e => by have := unhide S1; omega
    have hS1 : w.heap.size ≤ W1.heap.size := by have := unhide S1; omega
    have HZP : Hid (PW w Z.drew (.slice pa pn pc) (.slice qa qn qc) (decP B).1) := ((((unhide P5).fr z3 hno).fr al (fun _ _ e => e)).low' hS1)
    have HZX : Hid (FcR w.heap.size Z.drew (.slice ha M hc) (.slice ma M mc) Ls) := (((unhide HF5).fr z3 hno).fr al (fun _ _ e => e)).low hS1
    clear z1 z2 z3 al HP eZ m0 m1 n0 n1 y0 y1 x0 x1 p0 p1 g0 g1 lA lC lB lG hno
    go_wp2_with fail
    (try simp only [Exit.inBlock, Exit.then])
    refine bodyPost_ret (results_mix (fn := Tryz.f26) (p := 2) (q := 3) (r := 4) rfl _ _ _ rfl rfl (load27 (unhide HZ1)) (load30 (unhide HZ2))) rfl ?_
    exact ⟨_, _, _, _, _, _, _, _, _, _, _, _, _, rfl, unhide HZF, .inr ⟨rfl, unhide hd, unhide HZP, Ls, unhide HV, unhide HZX⟩⟩

set_option linter.unusedVariables false
set_option linter.unusedSimpArgs false
set_option maxRecDepth 100000
/-- What is asked of a program that is held against the document. -/
def InP (p : Pg) : Prop := p.consts.length ≤ 1048576000 ∧ p.funcs.length ≤ 1048576000 ∧ (∀ (i : Nat) (f : Fc), p.funcs[i]? = some f → f.code.length ≤ 9000000000000 ∧ f.name.size ≤ 9223372036854775807 ∧ ∀ q ∈ f.code, I64 q.2) ∧ NumP p
set_option maxHeartbeats 6400000 in
theorem rEnc_any {w : World} {pv : Value} {p : Pg} (hp : PgV w pv p) (hi : InP p) :
    Calls Tryz.prog 7 #[pv] w fun e w' => ∃ v', e = .returned (.tuple #[v', .int .i64 (enP p).2]) ∧ Below w.heap.size w w' ∧ ((enP p).2 = 0 → w'.ownsRow w.heap.size 5 1 v' (enP p).1.length ((enP p).1.map By)) ∧ ((enP p).2 ≠ 0 → v' = .slice none 0 0) := by
  have HI := hide hi
  obtain ⟨xa, xn, xc, ya, yn, yc, rfl⟩ : ∃ xa xn xc ya yn yc, pv = .agg #[.slice xa xn xc, .slice ya yn yc] := by
    obtain ⟨cv, fv, e, h1, h2⟩ := hp
    obtain ⟨_, a, c, e1, _⟩ := h1
    obtain ⟨a2, c2, e2, _⟩ := h2.at
    exact ⟨_, _, _, _, _, _, by rw [e, e1, e2]⟩
  obtain ⟨z, hz⟩ : ∃ z, Hid (enP p = z) := ⟨_, rfl⟩
  rw [unhide hz]
  obtain ⟨W1, eW1⟩ : ∃ W1, Hid (W1 = w.alloc (.cells #[.slice xa xn xc, .slice ya yn yc] 25)) := ⟨_, rfl⟩
  have hb1 : Below w.heap.size w W1 := by rw [unhide eW1]; exact (Below.refl _ w).alloc (Nat.le_refl _) _
  obtain ⟨bx, ebx⟩ : ∃ b, Hid (w.heap.size = b) := ⟨_, rfl⟩
  have X1 : Hid (Bx W1 2 bx [.slice xa xn xc, .slice ya yn yc]) := by rw [unhide eW1]; exact Bx.new rfl (unhide ebx)
  have F1 : Hid (Below w.heap.size w W1) := hb1
  have P1 : Hid (PgV W1 (.agg #[.slice xa xn xc, .slice ya yn yc]) p) := hp.below hb1 (Nat.le_refl _)
  clear hb1 hp hi
  go_enter Tryz.func7, Tryz.ntmps7
  go_wp2_with fail
  rw [← unhide eW1, unhide ebx]
  clear eW1
  refine (rCheck_any (unhide P1) (by have := (unhide HI).1; omega) (unhide HI).2.2.1).mono ?_
  rintro e W2 ⟨rfl, hb2⟩
  have F2 : Hid (Below w.heap.size w W2) := (unhide F1).trans (hb2.mono (unhide F1).size)
  have P2 : Hid (PgV W2 (.agg #[.slice xa xn xc, .slice ya yn yc]) p) := (unhide P1).below hb2 (Nat.le_refl _)
  have X2 : Hid (Bx W2 2 bx [.slice xa xn xc, .slice ya yn yc]) := (unhide X1).fr (S := fun _ => False) (Fr.of_below hb2) (fun e => e)
  clear hb2 F1 P1 X1
  cases hck : ckF p with
  | some o =>
    obtain ⟨k, a, y⟩ := o
    have hy := ckF_ne hck
    have hyb : (y != 0) = true := by simpa using hy
    have HZ : Hid (z = ([], y)) := by rw [← unhide hz]; unfold Hid enP; rw [hck]
    clear hck
    simp only [rsV]
    go_wp2_with fail
    go_ret2
    rw [unhide HZ]
    exact ⟨_, rfl, (unhide F2).trans (((Below.refl _ _).alloc (Nat.le_refl _) _).mono (unhide F2).size), fun q => absurd q hy, fun _ => rfl⟩
  | none =>
    have hnn := num_nn (unhide HI).2.2.2 hck
    have HNN := hide hnn
    have HZ : Hid (z = if 4194304 < (pfm p).length then ([], 5) else (pfm p, 0)) := by rw [← unhide hz]; unfold Hid enP; rw [hck]
    clear hck hnn
    obtain ⟨W3, eW3⟩ : ∃ W3, Hid (W3 = W2.alloc (.cells #[.int .i64 0, .int .i64 0] 46)) := ⟨_, rfl⟩
    have hb3 : Below W2.heap.size W2 W3 := by rw [unhide eW3]; exact (Below.refl _ _).alloc (Nat.le_refl _) _
    have F3 : Hid (Below w.heap.size w W3) := (unhide F2).trans (hb3.mono (unhide F2).size)
    have P3 : Hid (PgV W3 (.agg #[.slice xa xn xc, .slice ya yn yc]) p) := (unhide P2).below hb3 (Nat.le_refl _)
    have m0 := (unhide X2).cell (j := 0) rfl
    have m1 := (unhide X2).cell (j := 1) rfl
    have lX := (unhide X2).lt
    clear hb3 F2 P2
    simp only [rsV]
    go_wp2_with fail
    rw [← unhide eW3]
    clear eW3 m0 m1 lX
    refine (rBytes_any (unhide P3) (unhide HNN).1 (unhide HNN).2.1 (unhide HNN).2.2.1 (unhide HNN).2.2.2).mono ?_
    rintro e W4 ⟨l, rfl, ho4, hb4⟩
    have F4 : Hid (Below w.heap.size w W4) := (unhide F3).trans (hb4.mono (unhide F3).size)
    have O4 : Hid (W4.ownsRow w.heap.size 5 1 l (pfm p).length ((pfm p).map By)) := own_low ho4 (unhide F3).size
    obtain ⟨la, lc, el, _, _⟩ := (Ro.of_own ho4).shape
    subst el
    obtain ⟨M, hM⟩ : ∃ M, Hid ((pfm p).length = M) := ⟨_, rfl⟩
    rw [unhide hM] at HZ O4 ⊢
    clear ho4 hb4 F3 P3
    by_cases q : 4194304 < M
    · rw [if_pos q] at HZ
      have i1 : (M : Int) > 4194304 := by omega
      go_wp2_with fail
      go_ret2
      rw [unhide HZ]
      exact ⟨_, rfl, unhide F4, fun q => absurd q (by simp), fun _ => rfl⟩
    · rw [if_neg q] at HZ
      have i1 : ¬ (M : Int) > 4194304 := by omega
      go_wp2_with fail
      go_ret2
      rw [unhide HZ]
      exact ⟨_, rfl, unhide F4, fun _ => by have := unhide O4; rw [← unhide hM] at this ⊢; exact this, fun q => absurd rfl q⟩

set_option linter.unusedVariables false
set_option linter.unusedSimpArgs false
set_option maxRecDepth 100000
theorem put2 {W : World} {a : Nat} {u0 u1 : Value} (hA : Bx W 2 a [u0, u1]) (x y : Value) :
    Bx ((W.setCell ⟨a, 0, none⟩ x).setCell ⟨a, 1, none⟩ y) 2 a [x, y] ∧ Fr (fun k => k = a) W ((W.setCell ⟨a, 0, none⟩ x).setCell ⟨a, 1, none⟩ y) := by
  have a1 := (hA.set (j := 0) (by omega) x).set (j := 1) (by omega) y
  have f1 := fr_set W a 0 x
  have f2 := fr_set (W.setCell ⟨a, 0, none⟩ x) a 1 y
  exact ⟨a1, f1.step f2 (fun _ _ e => e)⟩
theorem results_ctt {fn : Func} {p q r : Tmp} {t1 : TypeId} (h : fn.results = #[.cell p t1, .tmp q, .tmp r]) (tmps : Array Value) (P : Program) (w : World) {a1 : Addr} {v1 : Value} (e1 : tmps[p]?.getD undef = .pointer (some a1)) (l1 : (loadVar t1 a1).run P w = .ok v1 w) :
    (results fn tmps).run P w = .ok (.tuple #[v1, tmps.getD q undef, tmps.getD r undef]) w := by
  simp only [results, h]
  simp [Sem.run_bind, Result.andThen, asAddr, e1, l1]
set_option maxHeartbeats 6400000 in
theorem taken_any {w : World} {xa ya : Option Addr} {xn xc yn yc : Nat} {p : Pg} (hp : PgV w (.agg #[.slice xa xn xc, .slice ya yn yc]) p) (hi : InP p) :
    Calls Tryz.prog 25 #[(.agg #[.slice xa xn xc, .slice ya yn yc])] w fun e w' => ∃ ha hn hc ma mn mc bv okb, e = .returned (.tuple #[.agg #[.slice ha hn hc, .slice ma mn mc], bv, .bool okb]) ∧ Below w.heap.size w w' ∧ (okb = true → ∃ Ls, VpR p (some Ls) 0 0 0 ∧ (enP p).2 = 0 ∧ FcR w.heap.size w' (.slice ha hn hc) (.slice ma mn mc) Ls ∧ Rd w' bv (enP p).1) := by
  have HI := hide hi
  obtain ⟨W1, eW1⟩ : ∃ W1, Hid (W1 = (w.alloc (.cells #[.slice xa xn xc, .slice ya yn yc] 25)).alloc (.cells #[.slice none 0 0, .slice none 0 0] 57)) := ⟨_, rfl⟩
  have F1 : Hid (Below w.heap.size w W1) := by rw [unhide eW1]; exact ((Below.refl _ w).alloc (Nat.le_refl _) _).alloc (by simp) _
  obtain ⟨bx, ebx⟩ : ∃ b, Hid (w.heap.size = b) := ⟨_, rfl⟩
  have X1 : Hid (Bx W1 2 bx [.slice xa xn xc, .slice ya yn yc]) := by rw [unhide eW1]; exact (Bx.new (w := w) (arr := #[.slice xa xn xc, .slice ya yn yc]) (t := 25) rfl (unhide ebx)).fr (S := fun _ => False) ((Fr.refl _ _).alloc _) (fun e => e)
  have A1 : Hid (Bx W1 2 (bx + 1) [.slice none 0 0, .slice none 0 0]) := by rw [unhide eW1]; exact Bx.new rfl (by simp; exact unhide ebx)
  have P1 : Hid (PgV W1 (.agg #[.slice xa xn xc, .slice ya yn yc]) p) := hp.below (unhide F1) (Nat.le_refl _)
  have S1 : Hid (bx + 2 ≤ W1.heap.size) := by unfold Hid; rw [unhide eW1, ← unhide ebx]; simp
  clear hp hi
  go_enter Tryz.func25, Tryz.ntmps25
  go_wp2_with fail
  rw [← unhide eW1, unhide ebx]
  clear eW1
  refine (tprogram_any (unhide P1) (by have := (unhide HI).1; omega) (unhide HI).2.2.1).mono ?_
  rintro e W2 ⟨fx, L, k, a, er, rfl, hV, hb2, hn2, hs2⟩
  have F2 : Hid (Below w.heap.size w W2) := (unhide F1).trans (hb2.mono (unhide F1).size)
  have X2 : Hid (Bx W2 2 bx [.slice xa xn xc, .slice ya yn yc]) := (unhide X1).fr (S := fun _ => False) (Fr.of_below hb2) (fun e => e)
  have A2 : Hid (Bx W2 2 (bx + 1) [.slice none 0 0, .slice none 0 0]) := (unhide A1).fr (S := fun _ => False) (Fr.of_below hb2) (fun e => e)
  have P2 : Hid (PgV W2 (.agg #[.slice xa xn xc, .slice ya yn yc]) p) := (unhide P1).below hb2 (Nat.le_refl _)
  have SB2 := hide hb2.size
  have HV := hide hV
  rcases hV.cases with ⟨rfl, hne⟩ | ⟨Ls, rfl, rfl, rfl, rfl, hlen⟩
  · obtain rfl := hn2 rfl
    have i1 : (er != 0) = true := by simpa using hne
    have m0 := (unhide A2).cell (j := 0) rfl
    have m1 := (unhide A2).cell (j := 1) rfl
    have y0 := (unhide A2).free 0
    have y1 := (unhide A2).free 1
    have lA := (unhide A2).lt
    have lX := (unhide X2).lt
    have HP := hide (put2 (unhide A2) (.slice none 0 0) (.slice none 0 0))
    clear hV hb2 hn2 hs2 F1 X1 A1 P1
    go_wp2_with fail
    obtain ⟨Q, eQ⟩ : ∃ Q, Hid (Q = (W2.setCell ⟨bx + 1, 0, none⟩ (.slice none 0 0)).setCell ⟨bx + 1, 1, none⟩ (.slice none 0 0)) := ⟨_, rfl⟩
    rw [← unhide eQ] at HP ⊢
    obtain ⟨z1, z3⟩ := unhide HP
    have al : ∀ o o' : Obj, Fr (fun _ => False) Q ((Q.alloc o).alloc o') := fun o o' => ((Fr.refl _ _).alloc o).alloc o'
    refine bodyPost_ret (results_ctt (fn := Tryz.f25) (p := 2) (q := 3) (r := 4) rfl _ _ _ rfl (load30 (z1.fr (al _ _) (fun e => e)))) rfl ?_
    refine ⟨none, 0, 0, none, 0, 0, _, false, rfl, ?_, fun q => by cases q⟩
    have f1 := (unhide F2).trans (Fr.below z3 (unhide F2).size (fun k hk e => by have := unhide ebx; omega))
    exact f1.trans ((al _ _).below f1.size (fun _ _ e => e))
  · obtain ⟨hv, mv, rfl, hF⟩ := hs2 Ls rfl
    have HF : Hid (FcR W1.heap.size W2 hv mv Ls) := hF
    obtain ⟨ha, hc, ma, mc, rfl, rfl⟩ := hF.shape
    obtain ⟨M, hM⟩ : ∃ M, Hid (Ls.length = M) := ⟨_, rfl⟩
    rw [unhide hM] at HF ⊢
    obtain ⟨W3, eW3⟩ : ∃ W3, Hid (W3 = (W2.alloc (.cells #[.slice ha M hc, .slice ma M mc] 57)).alloc (.cells #[.int .i64 0, .int .i64 0] 46)) := ⟨_, rfl⟩
    have hb3 : Below W2.heap.size W2 W3 := by rw [unhide eW3]; exact ((Below.refl _ _).alloc (Nat.le_refl _) _).alloc (by simp) _
    obtain ⟨bg, ebg⟩ : ∃ b, Hid (W2.heap.size = b) := ⟨_, rfl⟩
    have G3 : Hid (Bx W3 2 bg [.slice ha M hc, .slice ma M mc]) := by rw [unhide eW3]; exact (Bx.new rfl (unhide ebg)).fr (S := fun _ => False) ((Fr.refl _ _).alloc _) (fun e => e)
    have F3 : Hid (Below w.heap.size w W3) := (unhide F2).trans (hb3.mono (unhide F2).size)
    have A3 : Hid (Bx W3 2 (bx + 1) [.slice none 0 0, .slice none 0 0]) := (unhide A2).fr (S := fun _ => False) (Fr.of_below hb3) (fun e => e)
    have P3 : Hid (PgV W3 (.agg #[.slice xa xn xc, .slice ya yn yc]) p) := (unhide P2).below hb3 (Nat.le_refl _)
    have HF3 : Hid (FcR W1.heap.size W3 (.slice ha M hc) (.slice ma M mc) Ls) := (unhide HF).fr (S := fun _ => False) (Fr.of_below hb3) (fun _ _ e => e)
    have m0 := (unhide X2).cell (j := 0) rfl
    have m1 := (unhide X2).cell (j := 1) rfl
    have lX := (unhide X2).lt
    clear hV hb2 hn2 hs2 hF F1 X1 A1 P1 F2 A2 P2 HF hb3
    go_wp2_with fail
    rw [← unhide eW3, unhide ebg]
    clear eW3 m0 m1 lX X2
    refine (rEnc_any (unhide P3) (unhide HI)).mono ?_
    rintro e W4 ⟨bv, rfl, hb4, hg4, hz4⟩
    obtain ⟨d, hd⟩ : ∃ d, Hid ((enP p).2 = d) := ⟨_, rfl⟩
    rw [unhide hd] at hg4 hz4 ⊢
    have F4 : Hid (Below w.heap.size w W4) := (unhide F3).trans (hb4.mono (unhide F3).size)
    have A4 : Hid (Bx W4 2 (bx + 1) [.slice none 0 0, .slice none 0 0]) := (unhide A3).fr (S := fun _ => False) (Fr.of_below hb4) (fun e => e)
    have G4 : Hid (Bx W4 2 bg [.slice ha M hc, .slice ma M mc]) := (unhide G3).fr (S := fun _ => False) (Fr.of_below hb4) (fun e => e)
    have HF4 : Hid (FcR W1.heap.size W4 (.slice ha M hc) (.slice ma M mc) Ls) := (unhide HF3).fr (S := fun _ => False) (Fr.of_below hb4) (fun _ _ e => e)
    have R4 : Hid (d = 0 → Ro W4 1 bv (enP p).1.length ((enP p).1.map By) ∧ ∀ k, bv.ownBlock = some k → W3.heap.size ≤ k) := fun q => ⟨Ro.of_own (hg4 q), fun k hk => ((hg4 q).lt k hk).1⟩
    have SB4 : Hid (bx + 2 ≤ W3.heap.size) := by have := unhide S1; have h2 := unhide SB2; have h3 := (unhide G3).lt; have h4 := unhide ebg; unfold Hid; omega
    have m0 := (unhide A4).cell (j := 0) rfl
    have m1 := (unhide A4).cell (j := 1) rfl
    have y0 := (unhide A4).free 0
    have y1 := (unhide A4).free 1
    have lA := (unhide A4).lt
    clear hb4 hg4 hz4 F3 A3 P3 G3 HF3
    by_cases q : d = 0
    case neg =>
      have i1 : (d != 0) = true := by simpa using q
      have HP := hide (put2 (unhide A4) (.slice none 0 0) (.slice none 0 0))
      go_wp2_with fail
      obtain ⟨Q, eQ⟩ : ∃ Q, Hid (Q = (W4.setCell ⟨bx + 1, 0, none⟩ (.slice none 0 0)).setCell ⟨bx + 1, 1, none⟩ (.slice none 0 0)) := ⟨_, rfl⟩
      rw [← unhide eQ] at HP ⊢
      obtain ⟨z1, z3⟩ := unhide HP
      refine bodyPost_ret (results_ctt (fn := Tryz.f25) (p := 2) (q := 3) (r := 4) rfl _ _ _ rfl (load30 z1)) rfl ?_
      exact ⟨none, 0, 0, none, 0, 0, _, false, rfl, (unhide F4).trans (Fr.below z3 (unhide F4).size (fun k hk e => by have := unhide ebx; omega)), fun q => by cases q⟩
    subst q
    have HR4 := hide ((unhide R4) rfl)
    clear R4
    have g0 := (unhide G4).cell (j := 0) rfl
    have g1 := (unhide G4).cell (j := 1) rfl
    have lG := (unhide G4).lt
    have HP := hide (put2 (unhide A4) (.slice ha M hc) (.slice ma M mc))
    go_wp2_with fail
    obtain ⟨Q, eQ⟩ : ∃ Q, Hid (Q = (W4.setCell ⟨bx + 1, 0, none⟩ (.slice ha M hc)).setCell ⟨bx + 1, 1, none⟩ (.slice ma M mc)) := ⟨_, rfl⟩
    rw [← unhide eQ] at HP ⊢
    obtain ⟨z1, z3⟩ := unhide HP
    refine bodyPost_ret (results_ctt (fn := Tryz.f25) (p := 2) (q := 3) (r := 4) rfl _ _ _ rfl (load30 z1)) rfl ?_
    have hno : ∀ k, W1.heap.size ≤ k → ¬ k = bx + 1 := fun k hk e => by have := unhide S1; omega
    have hS1 : w.heap.size ≤ W1.heap.size := by have := unhide S1; have := unhide ebx; omega
    refine ⟨_, _, _, _, _, _, _, true, rfl, (unhide F4).trans (Fr.below z3 (unhide F4).size (fun k hk e => by have := unhide ebx; omega)), fun _ => ⟨Ls, unhide HV, unhide hd, ((unhide HF4).fr z3 hno).low hS1, ?_⟩⟩
    exact Rd.of_ro ((unhide HR4).1.fr z3 (fun k hk e => by have := (unhide HR4).2 k hk; have := unhide SB4; omega))

set_option linter.unusedVariables false
set_option linter.unusedSimpArgs false
/-- Facts that can be read. -/
def FcW (w : World) (hv mv : Value) (Ls : List (List Int)) : Prop :=
  ∃ vs, Ro w 1 hv Ls.length vs ∧ (∀ (i : Nat) (l : List Int) (u : Value), Ls[i]? = some l → vs[i]? = some u → Ro w 1 u l.length (flt enN l)) ∧ Ro w 1 mv Ls.length (flt enN (Ls.map mxl))
theorem FcR.fcw {B : Nat} {w : World} {hv mv : Value} {Ls : List (List Int)} (h : FcR B w hv mv Ls) : FcW w hv mv Ls := by
  obtain ⟨vs, h1, h2, h3, _⟩ := h
  exact ⟨vs, h1, fun i l u a b => (h2 i l u a b).1, h3⟩
theorem FcW.nil (w : World) : FcW w (.slice none 0 0) (.slice none 0 0) [] := ⟨[], Ro.nil _ _, fun i l u h => by simp at h, Ro.nil _ _⟩
theorem FcW.fr {S : Nat → Prop} {w w' : World} {hv mv : Value} {Ls : List (List Int)} (h : FcW w hv mv Ls) (f : Fr (fun _ => False) w w') : FcW w' hv mv Ls := by
  obtain ⟨vs, h1, h2, h3⟩ := h
  exact ⟨vs, h1.fr f (fun _ _ e => e), fun i l u a b => (h2 i l u a b).fr f (fun _ _ e => e), h3.fr f (fun _ _ e => e)⟩
theorem Ro.at1 {w : World} {v : Value} {n : Nat} {vs : List Value} (h : Ro w 1 v n vs) {i : Nat} (hi : i < n) : ∃ b off cap u, v = .slice (some ⟨b, off, none⟩) n cap ∧ b < w.heap.size ∧ vs[i]? = some u ∧ w.cell? ⟨b, off + i, none⟩ = some u := by
  obtain ⟨g, off, cap, e, _, _, hl, hc⟩ := h.full (by omega)
  have hv : i < vs.length := by have := h.1; omega
  refine ⟨g, off, cap, vs[i], e, hl, List.getElem?_eq_getElem hv, ?_⟩
  rw [hc i (by omega)]
  exact List.getElem?_eq_getElem hv
set_option maxRecDepth 100000 in
set_option maxHeartbeats 3200000 in
theorem sameRows_any {w : World} {u v : Value} {vs us : List Value} {Ls : List (List Int)} (hN : Ls.length ≤ 1048576) (hu : Ro w 1 u Ls.length us) (hv : Ro w 1 v Ls.length vs) (eu : ∀ (i : Nat) (l : List Int) (z : Value), Ls[i]? = some l → us[i]? = some z → Ro w 1 z l.length (flt enN l)) (ev : ∀ (i : Nat) (l : List Int) (z : Value), Ls[i]? = some l → vs[i]? = some z → Ro w 1 z l.length (flt enN l)) :
    Calls Tryz.prog 60 #[u, v] w fun e w' => e = .returned (.bool true) ∧ ∃ k, w' = w.drewN k := by
  have HU := hide hu
  have HV := hide hv
  have HEU := hide eu
  have HEV := hide ev
  obtain ⟨ua, uc, rfl, _, _⟩ := hu.shape
  obtain ⟨va, vc, rfl, _, _⟩ := hv.shape
  obtain ⟨N, hNn⟩ : ∃ n, Hid (Ls.length = n) := ⟨_, rfl⟩
  rw [unhide hNn] at hN HU HV ⊢
  have d0 : (((N : Nat) : Int) != (N : Int)) = false := by simp
  clear hu hv eu ev
  go_enter Tryz.func60, Tryz.ntmps60
  go_wp2_with fail
  go_loopg [5] N (fun gg t5 wr => ∃ (i : Nat), Hid (i + gg = N) ∧ t5 = .int .i64 (i : Int) ∧ Hid (∃ k, wr = w.drewN k))
  case atStart => exact ⟨0, by unfold Hid; omega, rfl, 0, rfl⟩
  case round =>
    obtain ⟨i, hi, rfl, hB⟩ := hrel
    by_cases hlt : i < N
    · have hil : i < Ls.length := by rw [unhide hNn]; exact hlt
      obtain ⟨l, hl⟩ : ∃ l, Ls[i]? = some l := ⟨_, List.getElem?_eq_getElem hil⟩
      obtain ⟨b1, o1, c1, z1, e1, l1, g1, k1⟩ := (unhide HU).at1 hlt
      obtain ⟨b2, o2, c2, z2, e2, l2, g2, k2⟩ := (unhide HV).at1 hlt
      have e1' : ua = some ⟨b1, o1, none⟩ := by injection e1
      have e2' : va = some ⟨b2, o2, none⟩ := by injection e2
      subst e1' e2'
      obtain ⟨kk, ekk⟩ := unhide hB
      have fw : Hid (Fr (fun _ => False) w wr) := by unfold Hid; rw [ekk]; exact Fr.drewN kk
      have k1 := ((unhide fw).cell (a := ⟨b1, o1 + i, none⟩) l1 (fun e => e)).trans k1
      have k2 := ((unhide fw).cell (a := ⟨b2, o2 + i, none⟩) l2 (fun e => e)).trans k2
      have l1 := Nat.lt_of_lt_of_le l1 (unhide fw).size
      have l2 := Nat.lt_of_lt_of_le l2 (unhide fw).size
      have HS := hide (fun (wx : World) (h : Fr (fun _ => False) w wx) => sameN_any (Rn.of_ro ((unhide HEU i l z1 hl g1).fr h (fun _ _ e => e))) (Rn.of_ro ((unhide HEV i l z2 hl g2).fr h (fun _ _ e => e))))
      obtain ⟨za, zc, ez, _, _⟩ := (unhide HEU i l z1 hl g1).shape
      obtain ⟨ya, yc, ey, _, _⟩ := (unhide HEV i l z2 hl g2).shape
      subst ez ey
      have i0 : (0 : Int) ≤ (i : Int) := by omega
      have i1 : (i : Int) < (N : Int) := by omega
      have HEK := hide ekk
      clear e1 e2 g1 g2 hl ekk
      go_wp2_with fail
      go_quiet (first | (go_at_call 61; exact Calls.quiet_of (unhide HS _ ((unhide fw).trans (Fr.drewN _)))))
      go_wp2_with fail
      go_roundg (gk - 1)
      case measure => have := unhide hi; omega
      case rel => exact ⟨i + 1, by have := unhide hi; unfold Hid; omega, by go_num, kk + nq, by rw [unhide HEK, World.drewN_drewN]⟩
    · have i1 : ¬ (i : Int) < (N : Int) := by omega
      go_wp2_with fail
      go_ret
      exact ⟨rfl, unhide hB⟩
set_option maxRecDepth 100000 in
set_option maxHeartbeats 3200000 in
theorem sameFacts_any {w : World} {h1 m1 h2 m2 : Value} {Ls : List (List Int)} (hN : Ls.length ≤ 1048576) (F1 : FcW w h1 m1 Ls) (F2 : FcW w h2 m2 Ls) :
    Calls Tryz.prog 27 #[.agg #[h1, m1], .agg #[h2, m2]] w fun e w' => e = .returned (.bool true) ∧ Below w.heap.size w w' := by
  have HF := hide (fun (wx : World) (h : Fr (fun _ => False) w wx) => (show Calls Tryz.prog 60 #[h1, h2] wx (fun e w' => e = .returned (.bool true) ∧ ∃ k, w' = wx.drewN k) from by
    obtain ⟨vs, a1, a2, a3⟩ := F1.fr (S := fun _ => False) h
    obtain ⟨us, b1, b2, b3⟩ := F2.fr (S := fun _ => False) h
    exact sameRows_any hN a1 b1 a2 b2))
  have HG := hide (fun (wx : World) (h : Fr (fun _ => False) w wx) => (show Calls Tryz.prog 61 #[m1, m2] wx (fun e w' => e = .returned (.bool true) ∧ ∃ k, w' = wx.drewN k) from by
    obtain ⟨vs, a1, a2, a3⟩ := F1.fr (S := fun _ => False) h
    obtain ⟨us, b1, b2, b3⟩ := F2.fr (S := fun _ => False) h
    exact sameN_any (l := Ls.map mxl) (Rn.of_ro (by rw [List.length_map]; exact a3)) (Rn.of_ro (by rw [List.length_map]; exact b3))))
  obtain ⟨_, a1, _, a3⟩ := F1
  obtain ⟨_, b1, _, b3⟩ := F2
  obtain ⟨p1, q1, rfl, _, _⟩ := a1.shape
  obtain ⟨p2, q2, rfl, _, _⟩ := a3.shape
  obtain ⟨p3, q3, rfl, _, _⟩ := b1.shape
  obtain ⟨p4, q4, rfl, _, _⟩ := b3.shape
  obtain ⟨N, hNn⟩ : ∃ n, Hid (Ls.length = n) := ⟨_, rfl⟩
  rw [unhide hNn] at HF HG ⊢
  obtain ⟨X, eX⟩ : ∃ X, X = (w.alloc (.cells #[.slice p1 N q1, .slice p2 N q2] 57)).alloc (.cells #[.slice p3 N q3, .slice p4 N q4] 57) := ⟨_, rfl⟩
  obtain ⟨t1, t2, t3, t4⟩ := two_boxes w #[.slice p1 N q1, .slice p2 N q2] #[.slice p3 N q3, .slice p4 N q4] 57 57
  rw [← eX] at t1 t2 t3 t4
  have x1 := t1 1
  have x2 := t2 1
  have HB := hide t3
  have fX : Hid (Fr (fun _ => False) w X) := Fr.of_below t3
  have ls1 : w.heap.size < X.heap.size := by omega
  have ls2 : w.heap.size + 1 < X.heap.size := by omega
  clear a1 a3 b1 b3 t1 t2 t3 t4
  go_enter Tryz.func27, Tryz.ntmps27
  go_wp2_with fail
  rw [← eX]
  refine (unhide HF _ (unhide fX)).mono ?_
  rintro e W2 ⟨rfl, k, ek⟩
  have f2 : Fr (fun _ => False) X W2 := by rw [ek]; exact Fr.drewN k
  have HFW : Hid (Fr (fun _ => False) w W2) := (unhide fX).trans f2
  have x1 := (f2.cell (a := ⟨w.heap.size, 1, none⟩) ls1 (fun e => e)).trans x1
  have x2 := (f2.cell (a := ⟨w.heap.size + 1, 1, none⟩) ls2 (fun e => e)).trans x2
  have ls1 := Nat.lt_of_lt_of_le ls1 f2.size
  have ls2 := Nat.lt_of_lt_of_le ls2 f2.size
  clear ek f2 eX
  simp at x1 x2
  go_wp2_with fail
  refine (unhide HG _ (unhide HFW)).mono ?_
  rintro e W3 ⟨rfl, k, ek⟩
  have HE : Hid (Below w.heap.size w W3) := by unfold Hid; rw [ek]; exact ((unhide HFW).trans (Fr.drewN k)).below (Nat.le_refl _) (fun _ _ e => e)
  clear ek
  go_wp2_with fail
  go_ret
  exact ⟨rfl, unhide HE⟩
set_option maxRecDepth 100000 in
theorem num_any (w : World) (n : Int) : Calls Tryz.prog 12 #[.int .i64 n] w fun e w' => e = .returned (.int .i64 n) ∧ w' = w := by
  go_enter Tryz.func12, Tryz.ntmps12
  go_wp2_with fail
  go_ret
  exact ⟨rfl, rfl⟩


set_option linter.unusedVariables false
set_option linter.unusedSimpArgs false
set_option maxRecDepth 100000
set_option maxHeartbeats 12800000 in
theorem takenLaw {w : World} {pv : Value} {p : Pg} (hp : PgV w pv p) (hS : p.funcs.length ≤ 1048576000 ∧ p.consts.length ≤ 1048576000 ∧ ∀ (i : Nat) (f : Fc), p.funcs[i]? = some f → f.code.length ≤ 1048576000 ∧ f.hs.length ≤ 1048576000) (hok : OkP p) (hi : InP p) (hl : Laid w) :
    Calls Tryz.prog 5 #[pv] w fun e w' => e = .returned (.bool true) ∧ Below w.heap.size w w' := by
  have gl : 0 < w.heap.size := World.block_lt_of_cell? _ _ hl
  have HL := hide hl
  have HG := hide gl
  have HS := hide hS
  have HOK := hide hok
  have HI := hide hi
  obtain ⟨xa, xn, xc, ya, yn, yc, rfl⟩ : ∃ xa xn xc ya yn yc, pv = .agg #[.slice xa xn xc, .slice ya yn yc] := by
    obtain ⟨cv, fv, e, h1, h2⟩ := hp
    obtain ⟨_, a, c, e1, _⟩ := h1
    obtain ⟨a2, c2, e2, _⟩ := h2.at
    exact ⟨_, _, _, _, _, _, by rw [e, e1, e2]⟩
  obtain ⟨W1, eW1⟩ : ∃ W1, Hid (W1 = w.alloc (.cells #[.slice xa xn xc, .slice ya yn yc] 25)) := ⟨_, rfl⟩
  have F1 : Hid (Below w.heap.size w W1) := by rw [unhide eW1]; exact (Below.refl _ w).alloc (Nat.le_refl _) _
  obtain ⟨bx, ebx⟩ : ∃ b, Hid (w.heap.size = b) := ⟨_, rfl⟩
  have X1 : Hid (Bx W1 2 bx [.slice xa xn xc, .slice ya yn yc]) := by rw [unhide eW1]; exact Bx.new rfl (unhide ebx)
  have P1 : Hid (PgV W1 (.agg #[.slice xa xn xc, .slice ya yn yc]) p) := hp.below (unhide F1) (Nat.le_refl _)
  clear hl gl hS hok hi hp
  go_enter Tryz.func5, Tryz.ntmps5
  go_wp2_with fail
  rw [← unhide eW1, unhide ebx]
  clear eW1
  refine (tprogram_any (unhide P1) (by have := (unhide HI).1; omega) (unhide HI).2.2.1).mono ?_
  rintro e W2 ⟨fx, L, k, a, er, rfl, hV, hb2, hn2, hs2⟩
  have F2 : Hid (Below w.heap.size w W2) := (unhide F1).trans (hb2.mono (unhide F1).size)
  have P2 : Hid (PgV W2 (.agg #[.slice xa xn xc, .slice ya yn yc]) p) := (unhide P1).below hb2 (Nat.le_refl _)
  have X2 : Hid (Bx W2 2 bx [.slice xa xn xc, .slice ya yn yc]) := (unhide X1).fr (S := fun _ => False) (Fr.of_below hb2) (fun e => e)
  clear F1 P1 X1
  have HV := hide hV
  rcases hV.cases with ⟨rfl, hne⟩ | ⟨Ls, rfl, rfl, rfl, rfl, hlen⟩
  · obtain rfl := hn2 rfl
    have i1 : (er != 0) = true := by simpa using hne
    obtain ⟨W3, eW3⟩ : ∃ W3, Hid (W3 = (W2.alloc (.cells #[.slice none 0 0, .slice none 0 0] 57)).alloc (.cells #[.int .i64 k, .int .i64 a] 46)) := ⟨_, rfl⟩
    have hb3 : Below W2.heap.size W2 W3 := by rw [unhide eW3]; exact ((Below.refl _ _).alloc (Nat.le_refl _) _).alloc (by simp) _
    have m0 := (unhide X2).cell (j := 0) rfl
    have m1 := (unhide X2).cell (j := 1) rfl
    have lX := (unhide X2).lt
    have F3 : Hid (Below w.heap.size w W3) := (unhide F2).trans (hb3.mono (unhide F2).size)
    have P3 : Hid (PgV W3 (.agg #[.slice xa xn xc, .slice ya yn yc]) p) := (unhide P2).below hb3 (Nat.le_refl _)
    have X3 : Hid (Bx W3 2 bx [.slice xa xn xc, .slice ya yn yc]) := (unhide X2).fr (S := fun _ => False) (Fr.of_below hb3) (fun e => e)
    clear F2 P2
    clear hV hb2 hn2 hs2 hb3
    go_wp2_with fail
    rw [← unhide eW3]
    clear eW3 m0 m1 lX X2
    refine (program_any (unhide P3) (unhide HOK) ((unhide HL).blw (unhide F3) (unhide HG))).mono ?_
    rintro e W4 ⟨fy, L', k', a', er', rfl, hV', hb4, hn4, hs4⟩
    obtain ⟨e1, rfl, rfl, rfl⟩ := (unhide HV).uniq hV'
    obtain rfl := hn4 e1.symm
    have F4 : Hid (Below w.heap.size w W4) := (unhide F3).trans (hb4.mono (unhide F3).size)
    clear F3
    clear hV' hb4 hn4 hs4 e1 P3 X3
    obtain ⟨W5, eW5⟩ : ∃ W5, Hid (W5 = (W4.alloc (.cells #[.slice none 0 0, .slice none 0 0] 57)).alloc (.cells #[.int .i64 k, .int .i64 a] 46)) := ⟨_, rfl⟩
    have hb5 : Below W4.heap.size W4 W5 := by rw [unhide eW5]; exact ((Below.refl _ _).alloc (Nat.le_refl _) _).alloc (by simp) _
    have F5 : Hid (Below w.heap.size w W5) := (unhide F4).trans (hb5.mono (unhide F4).size)
    clear F4
    clear hb5
    go_wp2_with fail
    rw [← unhide eW5]
    clear eW5
    refine (num_any W5 er).mono ?_
    rintro e W5' ⟨rfl, e5'⟩
    obtain rfl := e5'.symm
    clear e5'
    go_wp2_with fail
    go_ret
    exact ⟨rfl, unhide F5⟩
  obtain ⟨hv, mv, rfl, hF⟩ := hs2 Ls rfl
  obtain ⟨ha, hc, ma, mc, rfl, rfl⟩ := hF.shape
  obtain ⟨M, hM⟩ : ∃ M, Hid (Ls.length = M) := ⟨_, rfl⟩
  have A2 : Hid (FcR 0 W2 (.slice ha M hc) (.slice ma M mc) Ls) := by have := hF.low (Nat.zero_le _); rwa [unhide hM] at this
  rw [unhide hM]
  obtain ⟨W3, eW3⟩ : ∃ W3, Hid (W3 = (W2.alloc (.cells #[.slice ha M hc, .slice ma M mc] 57)).alloc (.cells #[.int .i64 0, .int .i64 0] 46)) := ⟨_, rfl⟩
  have hb3 : Below W2.heap.size W2 W3 := by rw [unhide eW3]; exact ((Below.refl _ _).alloc (Nat.le_refl _) _).alloc (by simp) _
  obtain ⟨ba, eba⟩ : ∃ b, Hid (W2.heap.size = b) := ⟨_, rfl⟩
  have a3 : Hid (Bx W3 2 ba [.slice ha M hc, .slice ma M mc]) := by rw [unhide eW3]; exact (Bx.new rfl (unhide eba)).fr (S := fun _ => False) ((Fr.refl _ _).alloc _) (fun e => e)
  have m0 := (unhide X2).cell (j := 0) rfl
  have m1 := (unhide X2).cell (j := 1) rfl
  have lX := (unhide X2).lt
  have F3 : Hid (Below w.heap.size w W3) := (unhide F2).trans (hb3.mono (unhide F2).size)
  have P3 : Hid (PgV W3 (.agg #[.slice xa xn xc, .slice ya yn yc]) p) := (unhide P2).below hb3 (Nat.le_refl _)
  have X3 : Hid (Bx W3 2 bx [.slice xa xn xc, .slice ya yn yc]) := (unhide X2).fr (S := fun _ => False) (Fr.of_below hb3) (fun e => e)
  have A3 : Hid (FcR 0 W3 (.slice ha M hc) (.slice ma M mc) Ls) := (unhide A2).fr (S := fun _ => False) (Fr.of_below hb3) (fun _ _ e => e)
  clear F2 P2 A2
  clear hV hb2 hn2 hs2 hF hb3
  go_wp2_with fail
  rw [← unhide eW3, unhide eba]
  clear eW3 m0 m1 lX X2
  refine (program_any (unhide P3) (unhide HOK) ((unhide HL).blw (unhide F3) (unhide HG))).mono ?_
  rintro e W4 ⟨fy, L', k', a', er', rfl, hV', hb4, hn4, hs4⟩
  obtain ⟨e1, rfl, rfl, rfl⟩ := (unhide HV).uniq hV'
  obtain ⟨hv', mv', rfl, hF⟩ := hs4 Ls e1.symm
  obtain ⟨ga, gc, na, nc, rfl, rfl⟩ := hF.shape
  have G4 : Hid (FcR 0 W4 (.slice ga M gc) (.slice na M nc) Ls) := by have := hF.low (Nat.zero_le _); rwa [unhide hM] at this
  rw [unhide hM]
  have F4 : Hid (Below w.heap.size w W4) := (unhide F3).trans (hb4.mono (unhide F3).size)
  have P4 : Hid (PgV W4 (.agg #[.slice xa xn xc, .slice ya yn yc]) p) := (unhide P3).below hb4 (Nat.le_refl _)
  have X4 : Hid (Bx W4 2 bx [.slice xa xn xc, .slice ya yn yc]) := (unhide X3).fr (S := fun _ => False) (Fr.of_below hb4) (fun e => e)
  have A4 : Hid (FcR 0 W4 (.slice ha M hc) (.slice ma M mc) Ls) := (unhide A3).fr (S := fun _ => False) (Fr.of_below hb4) (fun _ _ e => e)
  have a4 : Hid (Bx W4 2 ba [.slice ha M hc, .slice ma M mc]) := (unhide a3).fr (S := fun _ => False) (Fr.of_below hb4) (fun e => e)
  clear F3 P3 X3 A3 a3
  clear hV' hb4 hn4 hs4 e1 hF
  obtain ⟨W5, eW5⟩ : ∃ W5, Hid (W5 = (W4.alloc (.cells #[.slice ga M gc, .slice na M nc] 57)).alloc (.cells #[.int .i64 0, .int .i64 0] 46)) := ⟨_, rfl⟩
  have hb5 : Below W4.heap.size W4 W5 := by rw [unhide eW5]; exact ((Below.refl _ _).alloc (Nat.le_refl _) _).alloc (by simp) _
  obtain ⟨bg, ebg⟩ : ∃ b, Hid (W4.heap.size = b) := ⟨_, rfl⟩
  have g5 : Hid (Bx W5 2 bg [.slice ga M gc, .slice na M nc]) := by rw [unhide eW5]; exact (Bx.new rfl (unhide ebg)).fr (S := fun _ => False) ((Fr.refl _ _).alloc _) (fun e => e)
  have F5 : Hid (Below w.heap.size w W5) := (unhide F4).trans (hb5.mono (unhide F4).size)
  have P5 : Hid (PgV W5 (.agg #[.slice xa xn xc, .slice ya yn yc]) p) := (unhide P4).below hb5 (Nat.le_refl _)
  have X5 : Hid (Bx W5 2 bx [.slice xa xn xc, .slice ya yn yc]) := (unhide X4).fr (S := fun _ => False) (Fr.of_below hb5) (fun e => e)
  have A5 : Hid (FcR 0 W5 (.slice ha M hc) (.slice ma M mc) Ls) := (unhide A4).fr (S := fun _ => False) (Fr.of_below hb5) (fun _ _ e => e)
  have a5 : Hid (Bx W5 2 ba [.slice ha M hc, .slice ma M mc]) := (unhide a4).fr (S := fun _ => False) (Fr.of_below hb5) (fun e => e)
  have G5 : Hid (FcR 0 W5 (.slice ga M gc) (.slice na M nc) Ls) := (unhide G4).fr (S := fun _ => False) (Fr.of_below hb5) (fun _ _ e => e)
  clear F4 P4 X4 A4 a4 G4
  clear hb5
  go_wp2_with fail
  rw [← unhide eW5, unhide ebg]
  clear eW5
  refine (num_any W5 0).mono ?_
  rintro e W5' ⟨rfl, e5'⟩
  obtain rfl := e5'.symm
  clear e5'
  have m0 := (unhide X5).cell (j := 0) rfl
  have m1 := (unhide X5).cell (j := 1) rfl
  have lX := (unhide X5).lt
  go_wp2_with fail
  clear m0 m1 lX
  refine (taken_any (unhide P5) (unhide HI)).mono ?_
  rintro e W6 ⟨ia, im, ic, ja, jm, jc, bv, okb, rfl, hb6, hq6⟩
  have HQ6 := hide hq6
  have F6 : Hid (Below w.heap.size w W6) := (unhide F5).trans (hb6.mono (unhide F5).size)
  have P6 : Hid (PgV W6 (.agg #[.slice xa xn xc, .slice ya yn yc]) p) := (unhide P5).below hb6 (Nat.le_refl _)
  have X6 : Hid (Bx W6 2 bx [.slice xa xn xc, .slice ya yn yc]) := (unhide X5).fr (S := fun _ => False) (Fr.of_below hb6) (fun e => e)
  have A6 : Hid (FcR 0 W6 (.slice ha M hc) (.slice ma M mc) Ls) := (unhide A5).fr (S := fun _ => False) (Fr.of_below hb6) (fun _ _ e => e)
  have a6 : Hid (Bx W6 2 ba [.slice ha M hc, .slice ma M mc]) := (unhide a5).fr (S := fun _ => False) (Fr.of_below hb6) (fun e => e)
  have G6 : Hid (FcR 0 W6 (.slice ga M gc) (.slice na M nc) Ls) := (unhide G5).fr (S := fun _ => False) (Fr.of_below hb6) (fun _ _ e => e)
  have g6 : Hid (Bx W6 2 bg [.slice ga M gc, .slice na M nc]) := (unhide g5).fr (S := fun _ => False) (Fr.of_below hb6) (fun e => e)
  clear F5 P5 X5 A5 a5 G5 g5
  clear hb6 hq6
  obtain ⟨W7, eW7⟩ : ∃ W7, Hid (W7 = W6.alloc (.cells #[.slice ia im ic, .slice ja jm jc] 57)) := ⟨_, rfl⟩
  have hb7 : Below W6.heap.size W6 W7 := by rw [unhide eW7]; exact (Below.refl _ _).alloc (Nat.le_refl _) _
  obtain ⟨bd, ebd⟩ : ∃ b, Hid (W6.heap.size = b) := ⟨_, rfl⟩
  have d7 : Hid (Bx W7 2 bd [.slice ia im ic, .slice ja jm jc]) := by rw [unhide eW7]; exact Bx.new rfl (unhide ebd)
  cases okb with
  | false =>
    have F7 : Hid (Below w.heap.size w W7) := (unhide F6).trans (hb7.mono (unhide F6).size)
    clear hb7
    go_wp2_with fail
    go_ret
    exact ⟨rfl, by have := unhide F7; rwa [unhide eW7] at this⟩
  | true =>
    obtain ⟨Ls', hV6, hd, hD6, hR6⟩ := (unhide HQ6) rfl
    have hLs : Ls = Ls' := by have := (hV6.uniq (unhide HV)).1; cases this; rfl
    subst hLs
    have hdb := decP_back (unhide HI).2.2.2 hd
    obtain ⟨E, hE⟩ : ∃ E, Hid ((enP p).1 = E) := ⟨_, rfl⟩
    have BE : Hid (BOk E) := by rw [← unhide hE]; exact enP_bok (unhide HI).2.2.2 hd
    have HDP : Hid (decP E = (p, 0)) := by rw [← unhide hE]; exact hdb.1
    have LE : Hid (E.length ≤ 140737488355328) := by
      have h2 := (decP_rdP (B := E) (by rw [unhide HDP])).1
      unfold Hid; omega
    rw [unhide hE] at hR6
    have R6 : Hid (Rd W6 bv E) := hR6
    have D6 : Hid (FcR 0 W6 (.slice ia im ic) (.slice ja jm jc) Ls) := hD6.low (Nat.zero_le _)
    have hml : Ls.length ≤ 128 := by rw [hlen]; exact (ckF_none.1 hdb.2).2.2.1
    have F7 : Hid (Below w.heap.size w W7) := (unhide F6).trans (hb7.mono (unhide F6).size)
    have P7 : Hid (PgV W7 (.agg #[.slice xa xn xc, .slice ya yn yc]) p) := (unhide P6).below hb7 (Nat.le_refl _)
    have X7 : Hid (Bx W7 2 bx [.slice xa xn xc, .slice ya yn yc]) := (unhide X6).fr (S := fun _ => False) (Fr.of_below hb7) (fun e => e)
    have A7 : Hid (FcR 0 W7 (.slice ha M hc) (.slice ma M mc) Ls) := (unhide A6).fr (S := fun _ => False) (Fr.of_below hb7) (fun _ _ e => e)
    have a7 : Hid (Bx W7 2 ba [.slice ha M hc, .slice ma M mc]) := (unhide a6).fr (S := fun _ => False) (Fr.of_below hb7) (fun e => e)
    have G7 : Hid (FcR 0 W7 (.slice ga M gc) (.slice na M nc) Ls) := (unhide G6).fr (S := fun _ => False) (Fr.of_below hb7) (fun _ _ e => e)
    have g7 : Hid (Bx W7 2 bg [.slice ga M gc, .slice na M nc]) := (unhide g6).fr (S := fun _ => False) (Fr.of_below hb7) (fun e => e)
    have R7 : Hid (Rd W7 bv E) := (unhide R6).bl hb7
    have D7 : Hid (FcR 0 W7 (.slice ia im ic) (.slice ja jm jc) Ls) := (unhide D6).fr (S := fun _ => False) (Fr.of_below hb7) (fun _ _ e => e)
    clear F6 P6 X6 A6 a6 G6 g6 R6 D6
    clear hb7 HQ6 hV6 hD6 hR6 hdb hd
    obtain ⟨sa, sc, esv⟩ := (unhide R7).shapeR
    have R7' := R7
    clear R7
    subst esv
    obtain ⟨EN, hEN⟩ : ∃ n, Hid (E.length = n) := ⟨_, rfl⟩
    rw [unhide hEN] at R7' ⊢
    go_wp2_with fail
    rw [← unhide eW7, unhide ebd]
    clear eW7
    refine (load_any (unhide R7') (unhide BE) (unhide LE) ((unhide HL).blw (unhide F7) (unhide HG))).mono ?_
    rintro e W8 ⟨pa, pn, pc, qa, qn, qc, za, zn, zc, ta, tn, tc, er2, rfl, hb8, hq8⟩
    obtain ⟨rfl, hA8, hX8⟩ : er2 = 0 ∧ PW W7 W8 (.slice pa pn pc) (.slice qa qn qc) p ∧ FcR W7.heap.size W8 (.slice za zn zc) (.slice ta tn tc) Ls := by
      rcases hq8 with ⟨e0, _, _, _, _, e5⟩ | ⟨e1, _, e2, Ls2, e5, e6⟩
      · rw [unhide HDP] at e5
        rcases e5 with ⟨e, _⟩ | ⟨_, k', a', e⟩
        · exact absurd rfl e
        · have := (e.uniq (unhide HV)).1; cases this
      · rw [unhide HDP] at e2 e5
        have := (e5.uniq (unhide HV)).1
        cases this
        exact ⟨e1, e2, e6⟩
    have Q8 : Hid (PgV W8 (.agg #[.slice pa pn pc, .slice qa qn qc]) p) := hA8.pgv
    have H8 : Hid (FcR 0 W8 (.slice za zn zc) (.slice ta tn tc) Ls) := hX8.low (Nat.zero_le _)
    have F8 : Hid (Below w.heap.size w W8) := (unhide F7).trans (hb8.mono (unhide F7).size)
    have P8 : Hid (PgV W8 (.agg #[.slice xa xn xc, .slice ya yn yc]) p) := (unhide P7).below hb8 (Nat.le_refl _)
    have X8 : Hid (Bx W8 2 bx [.slice xa xn xc, .slice ya yn yc]) := (unhide X7).fr (S := fun _ => False) (Fr.of_below hb8) (fun e => e)
    have A8 : Hid (FcR 0 W8 (.slice ha M hc) (.slice ma M mc) Ls) := (unhide A7).fr (S := fun _ => False) (Fr.of_below hb8) (fun _ _ e => e)
    have a8 : Hid (Bx W8 2 ba [.slice ha M hc, .slice ma M mc]) := (unhide a7).fr (S := fun _ => False) (Fr.of_below hb8) (fun e => e)
    have G8 : Hid (FcR 0 W8 (.slice ga M gc) (.slice na M nc) Ls) := (unhide G7).fr (S := fun _ => False) (Fr.of_below hb8) (fun _ _ e => e)
    have g8 : Hid (Bx W8 2 bg [.slice ga M gc, .slice na M nc]) := (unhide g7).fr (S := fun _ => False) (Fr.of_below hb8) (fun e => e)
    have D8 : Hid (FcR 0 W8 (.slice ia im ic) (.slice ja jm jc) Ls) := (unhide D7).fr (S := fun _ => False) (Fr.of_below hb8) (fun _ _ e => e)
    have d8 : Hid (Bx W8 2 bd [.slice ia im ic, .slice ja jm jc]) := (unhide d7).fr (S := fun _ => False) (Fr.of_below hb8) (fun e => e)
    clear F7 P7 X7 A7 a7 G7 g7 D7 d7
    clear hb8 hq8 hA8 hX8 R7'
    obtain ⟨W9, eW9⟩ : ∃ W9, Hid (W9 = (W8.alloc (.cells #[.slice pa pn pc, .slice qa qn qc] 25)).alloc (.cells #[.slice za zn zc, .slice ta tn tc] 57)) := ⟨_, rfl⟩
    have hb9 : Below W8.heap.size W8 W9 := by rw [unhide eW9]; exact ((Below.refl _ _).alloc (Nat.le_refl _) _).alloc (by simp) _
    obtain ⟨bq, ebq⟩ : ∃ b, Hid (W8.heap.size = b) := ⟨_, rfl⟩
    have q9 : Hid (Bx W9 2 bq [.slice pa pn pc, .slice qa qn qc]) := by rw [unhide eW9]; exact (Bx.new rfl (unhide ebq)).fr (S := fun _ => False) ((Fr.refl _ _).alloc _) (fun e => e)
    have h9 : Hid (Bx W9 2 (bq + 1) [.slice za zn zc, .slice ta tn tc]) := by rw [unhide eW9]; exact Bx.new rfl (by simp; exact unhide ebq)
    have F9 : Hid (Below w.heap.size w W9) := (unhide F8).trans (hb9.mono (unhide F8).size)
    have P9 : Hid (PgV W9 (.agg #[.slice xa xn xc, .slice ya yn yc]) p) := (unhide P8).below hb9 (Nat.le_refl _)
    have X9 : Hid (Bx W9 2 bx [.slice xa xn xc, .slice ya yn yc]) := (unhide X8).fr (S := fun _ => False) (Fr.of_below hb9) (fun e => e)
    have A9 : Hid (FcR 0 W9 (.slice ha M hc) (.slice ma M mc) Ls) := (unhide A8).fr (S := fun _ => False) (Fr.of_below hb9) (fun _ _ e => e)
    have a9 : Hid (Bx W9 2 ba [.slice ha M hc, .slice ma M mc]) := (unhide a8).fr (S := fun _ => False) (Fr.of_below hb9) (fun e => e)
    have G9 : Hid (FcR 0 W9 (.slice ga M gc) (.slice na M nc) Ls) := (unhide G8).fr (S := fun _ => False) (Fr.of_below hb9) (fun _ _ e => e)
    have g9 : Hid (Bx W9 2 bg [.slice ga M gc, .slice na M nc]) := (unhide g8).fr (S := fun _ => False) (Fr.of_below hb9) (fun e => e)
    have D9 : Hid (FcR 0 W9 (.slice ia im ic) (.slice ja jm jc) Ls) := (unhide D8).fr (S := fun _ => False) (Fr.of_below hb9) (fun _ _ e => e)
    have d9 : Hid (Bx W9 2 bd [.slice ia im ic, .slice ja jm jc]) := (unhide d8).fr (S := fun _ => False) (Fr.of_below hb9) (fun e => e)
    have Q9 : Hid (PgV W9 (.agg #[.slice pa pn pc, .slice qa qn qc]) p) := (unhide Q8).below hb9 (Nat.le_refl _)
    have H9 : Hid (FcR 0 W9 (.slice za zn zc) (.slice ta tn tc) Ls) := (unhide H8).fr (S := fun _ => False) (Fr.of_below hb9) (fun _ _ e => e)
    clear F8 P8 X8 A8 G8 D8 d8 Q8 H8
    clear hb9
    have c0 := (unhide a8).cell (j := 0) rfl
    have c1 := (unhide a8).cell (j := 1) rfl
    have c2 := (unhide g8).cell (j := 0) rfl
    have c3 := (unhide g8).cell (j := 1) rfl
    have l0 := (unhide a8).lt
    have l1 := (unhide g8).lt
    go_wp2_with fail
    rw [← unhide eW9, unhide ebq]
    clear eW9 c0 c1 c2 c3 l0 l1 a8 g8
    refine (sameFacts_any (Ls := Ls) (by omega) (unhide G9).fcw (unhide A9).fcw).mono ?_
    rintro e W10 ⟨rfl, hb10⟩
    have F10 : Hid (Below w.heap.size w W10) := (unhide F9).trans (hb10.mono (unhide F9).size)
    have P10 : Hid (PgV W10 (.agg #[.slice xa xn xc, .slice ya yn yc]) p) := (unhide P9).below hb10 (Nat.le_refl _)
    have X10 : Hid (Bx W10 2 bx [.slice xa xn xc, .slice ya yn yc]) := (unhide X9).fr (S := fun _ => False) (Fr.of_below hb10) (fun e => e)
    have D10 : Hid (FcR 0 W10 (.slice ia im ic) (.slice ja jm jc) Ls) := (unhide D9).fr (S := fun _ => False) (Fr.of_below hb10) (fun _ _ e => e)
    have d10 : Hid (Bx W10 2 bd [.slice ia im ic, .slice ja jm jc]) := (unhide d9).fr (S := fun _ => False) (Fr.of_below hb10) (fun e => e)
    have Q10 : Hid (PgV W10 (.agg #[.slice pa pn pc, .slice qa qn qc]) p) := (unhide Q9).below hb10 (Nat.le_refl _)
    have q10 : Hid (Bx W10 2 bq [.slice pa pn pc, .slice qa qn qc]) := (unhide q9).fr (S := fun _ => False) (Fr.of_below hb10) (fun e => e)
    have H10 : Hid (FcR 0 W10 (.slice za zn zc) (.slice ta tn tc) Ls) := (unhide H9).fr (S := fun _ => False) (Fr.of_below hb10) (fun _ _ e => e)
    have h10 : Hid (Bx W10 2 (bq + 1) [.slice za zn zc, .slice ta tn tc]) := (unhide h9).fr (S := fun _ => False) (Fr.of_below hb10) (fun e => e)
    clear F9 P9 X9 D9 d9 Q9 q9 H9 h9
    clear hb10 G9 A9 a9 g9
    go_wp2_with fail
    refine (num_any W10 0).mono ?_
    rintro e W10' ⟨rfl, e10'⟩
    obtain rfl := e10'.symm
    clear e10'
    have c0 := (unhide X10).cell (j := 0) rfl
    have c1 := (unhide X10).cell (j := 1) rfl
    have c2 := (unhide q10).cell (j := 0) rfl
    have c3 := (unhide q10).cell (j := 1) rfl
    have l0 := (unhide X10).lt
    have l1 := (unhide q10).lt
    go_wp2_with fail
    clear c0 c1 c2 c3 l0 l1
    refine (sameP_any (w := W10) (unhide P10) (unhide Q10) (by have := (unhide HS).2.1; omega) (by have := (unhide HS).1; omega) (fun f hf => by obtain ⟨i, hi⟩ := List.getElem?_of_mem hf; have := (unhide HS).2.2 i f hi; omega)).mono ?_
    rintro e W11 ⟨rfl, hb11⟩
    have F11 : Hid (Below w.heap.size w W11) := (unhide F10).trans (hb11.mono (unhide F10).size)
    have D11 : Hid (FcR 0 W11 (.slice ia im ic) (.slice ja jm jc) Ls) := (unhide D10).fr (S := fun _ => False) (Fr.of_below hb11) (fun _ _ e => e)
    have d11 : Hid (Bx W11 2 bd [.slice ia im ic, .slice ja jm jc]) := (unhide d10).fr (S := fun _ => False) (Fr.of_below hb11) (fun e => e)
    have H11 : Hid (FcR 0 W11 (.slice za zn zc) (.slice ta tn tc) Ls) := (unhide H10).fr (S := fun _ => False) (Fr.of_below hb11) (fun _ _ e => e)
    have h11 : Hid (Bx W11 2 (bq + 1) [.slice za zn zc, .slice ta tn tc]) := (unhide h10).fr (S := fun _ => False) (Fr.of_below hb11) (fun e => e)
    clear F10 D10 d10 H10 h10
    clear hb11 P10 Q10 X10 q10
    have c0 := (unhide d11).cell (j := 0) rfl
    have c1 := (unhide d11).cell (j := 1) rfl
    have c2 := (unhide h11).cell (j := 0) rfl
    have c3 := (unhide h11).cell (j := 1) rfl
    have l0 := (unhide d11).lt
    have l1 := (unhide h11).lt
    go_wp2_with fail
    clear c0 c1 c2 c3 l0 l1
    refine (sameFacts_any (Ls := Ls) (by omega) (unhide D11).fcw (unhide H11).fcw).mono ?_
    rintro e W12 ⟨rfl, hb12⟩
    have F12 : Hid (Below w.heap.size w W12) := (unhide F11).trans (hb12.mono (unhide F11).size)
    clear hb12
    go_wp2_with fail
    go_ret
    exact ⟨rfl, unhide F12⟩
end Go.Proofs.YtlogmdldjmkkjaaGreatDoor
