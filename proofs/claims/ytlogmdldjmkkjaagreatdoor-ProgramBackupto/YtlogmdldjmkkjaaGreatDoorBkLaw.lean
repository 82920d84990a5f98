/-
  ProgramBack holds.
-/
import Derived.Test.YtlogmdldjmkkjaaGreatDoorDgE
import Derived.Test.YtlogmdldjmkkjaaGreatDoorDSum
import Derived.Test.YtlogmdldjmkkjaaGreatDoorSh1
import Derived.Test.YtlogmdldjmkkjaaGreatDoorPBok
import Derived.Test.YtlogmdldjmkkjaaGreatDoorSPm
import Derived.Test.YtlogmdldjmkkjaaGreatDoorCopyP
namespace Go.Proofs.YtlogmdldjmkkjaaGreatDoor
open Go.RowKit
set_option linter.unusedVariables false
set_option linter.unusedSimpArgs false
set_option maxRecDepth 100000
theorem Rd.dg {w : World} {v : Value} {B : List Int} (h : Rd w v B) : dg.Rd w v B := h
theorem BOk.dg {B : List Int} (h : BOk B) : dg.BOk B := h
set_option maxHeartbeats 6400000 in
theorem digP_any {w : World} {ca fa : Option Addr} {cn cc fn fc : Nat} {p : Pg} (hp : PgV w (.agg #[.slice ca cn cc, .slice fa fn fc]) p) (hok : OkP p) (hl : Laid w) (hk : dg.KT w) (hnn : ckF p = none → (∀ c ∈ p.consts, NnC c) ∧ (∀ f ∈ p.funcs, NnF f) ∧ p.consts.length ≤ 512 ∧ p.funcs.length ≤ 128) {B : List Int} (he : enP p = (B, 0)) (hB : BOk B) (hN : B.length ≤ 140737488355328) :
    Calls Tryz.prog 11 #[.agg #[.slice ca cn cc, .slice fa fn fc]] w fun e w' => e = .returned (.tuple #[.agg (dg.Ar .u8 (dg.digF B)), .int .i64 0]) ∧ Below w.heap.size w w' := by
  have gl : 0 < w.heap.size := World.block_lt_of_cell? _ _ hl
  have hz := hide dg.Tryz.zero24
  have HL := hide hl
  have HG := hide gl
  have HK := hide hk
  have OB := hide hB
  have NB := hide hN
  have HOK := hide hok
  have HNN := hide hnn
  have HE := hide he
  obtain ⟨W0, eW0⟩ : ∃ W0, Hid (W0 = w.alloc (.cells #[.slice ca cn cc, .slice fa fn fc] 25)) := ⟨_, rfl⟩
  obtain ⟨W1, eW1⟩ : ∃ W1, Hid (W1 = W0.alloc (.cells (dg.Ar .u8 dg.z32) 30)) := ⟨_, rfl⟩
  have b0 : Below w.heap.size w W0 := by rw [unhide eW0]; exact (Below.refl _ w).alloc (Nat.le_refl _) _
  have s0 : W0.heap.size = w.heap.size + 1 := by rw [unhide eW0]; simp
  have b1 : Below w.heap.size w W1 := by rw [unhide eW1]; exact b0.alloc b0.size _
  have F1 := hide b1
  have T1 : Hid (W1.there (w.heap.size + 1) 0 32) := by rw [unhide eW1, ← s0]; exact dg.there_new W0
  have P1 : Hid (PgV W1 (.agg #[.slice ca cn cc, .slice fa fn fc]) p) := hp.below b1 (Nat.le_refl _)
  have S1 : Hid (w.heap.size + 1 < W1.heap.size) := by unfold Hid; rw [unhide eW1, World.size_alloc]; omega
  have S0 := hide s0
  clear b0 b1 s0 hl gl hk hB hN hok hnn hp he
  go_enter Tryz.func11, Tryz.ntmps11
  go_wp2_with (first | (refine dg.wpList_alloc_ar rfl 30 rfl (dg.Ar .u8 dg.z32) 32 (unhide hz) ?_))
  rw [← unhide eW0, ← unhide eW1]
  clear eW0 eW1
  refine (enP_any (unhide P1) (unhide HOK) ((unhide HL).blw (unhide F1) (unhide HG)) (unhide HNN)).mono ?_
  rw [unhide HE]
  rintro e W2 ⟨bv, rfl, hb2, hg2, -⟩
  have E2 : Hid (Rd W2 bv B) := Rd.of_ro (Ro.of_own (hg2 rfl))
  have T2 : Hid (W2.there (w.heap.size + 1) 0 32) := dg.there_keep (unhide T1) (hb2.block _ (unhide S1))
  have F2 : Hid (Below w.heap.size w W2) := (unhide F1).trans (hb2.mono (unhide F1).size)
  have K2 : Hid (dg.KT W2) := (unhide HK).bl (unhide F2)
  have S2 : Hid (w.heap.size + 1 < W2.heap.size) := Nat.lt_of_lt_of_le (unhide S1) hb2.size
  clear hb2 hg2 T1 F1 P1 S1
  go_wp2_with fail
  refine (dg.dsum_any bv B W2 (unhide E2).dg (unhide OB).dg (unhide NB) (unhide K2)).mono ?_
  rintro e W3 ⟨rfl, hb3⟩
  have T3 : Hid (W3.there (w.heap.size + 1) 0 32) := dg.there_keep (unhide T2) (hb3.block _ (unhide S2))
  have F3 : Hid (Below w.heap.size w W3) := (unhide F2).trans (hb3.mono (unhide F2).size)
  obtain ⟨DD, hDD⟩ : ∃ D, Hid (dg.digF B = D) := ⟨_, rfl⟩
  have HDL : Hid (DD.length = 32) := by rw [← unhide hDD]; exact dg.digF_len B
  rw [unhide hDD]
  clear hb3 T2 F2 K2 S2 E2
  go_wp2_with (first | (refine dg.wpList_store_ar rfl 30 _ _ rfl (w.heap.size + 1) 0 rfl .u8 DD 32 rfl (unhide HDL) (unhide T3) dg.Tryz.info30 ?_))
  have hst := dg.Seg.stored (k := .u8) DD (by rw [unhide HDL]; exact unhide T3)
  have hld := dg.run_loadVar_ar (P := Tryz.prog) _ (w.heap.size + 1) 0 30 .u8 DD _ 32 hst (unhide HDL) Tryz.underlying30 rfl dg.Tryz.info30
  refine bodyPost_ret (v := .tuple #[.agg (dg.Ar .u8 DD), .int .i64 0]) (by rw [results_ct (fn := Tryz.f11) (p := 2) (q := 3) (t1 := 30) rfl _ _ _ (a1 := ⟨w.heap.size + 1, 0, none⟩) rfl hld]; rfl) rfl ?_
  refine ⟨by rw [unhide hDD], ?_⟩
  have F := dg.Fr.setCells (S := fun _ => False) (a := w) (w.heap.size + 1) (.inl (by omega)) (DD.map (Value.int .u8)) 0 (dg.Fr.of_below (unhide F3))
  exact F.below (Nat.le_refl _) (by simp)

set_option linter.unusedVariables false
set_option linter.unusedSimpArgs false
set_option maxRecDepth 100000

set_option maxHeartbeats 12800000 in
theorem backLaw {w : World} {pv v : Value} {p : Pg} {B : List Int} (hp : PgV w pv p) (hS : p.funcs.length ≤ 1048576000 ∧ p.consts.length ≤ 1048576000 ∧ ∀ (i : Nat) (f : Fc), p.funcs[i]? = some f → f.code.length ≤ 1048576000 ∧ f.hs.length ≤ 1048576000) (hok : OkP p) (hn : NumP p) (hl : Laid w) (hk : dg.KT w) (hR : Rd w v B) (oB : BOk B) (hN : B.length ≤ 140737488355328) :
    Calls Tryz.prog 4 #[pv, v] w fun e w' => e = .returned (.bool true) ∧ Below w.heap.size w w' := by
  have gl : 0 < w.heap.size := World.block_lt_of_cell? _ _ hl
  have hz := hide dg.Tryz.zero24
  have HL := hide hl
  have HG := hide gl
  have OB := hide oB
  have NB := hide hN
  have HS := hide hS
  have HOK := hide hok
  have HN := hide hn
  obtain ⟨va, vc, rfl⟩ := hR.shapeR
  obtain ⟨N, hNN⟩ : ∃ N, Hid (B.length = N) := ⟨_, rfl⟩
  obtain ⟨NC, hNC⟩ : ∃ n, Hid (p.consts.length = n) := ⟨_, rfl⟩
  obtain ⟨NF, hNF⟩ : ∃ n, Hid (p.funcs.length = n) := ⟨_, rfl⟩
  have R0 := hide hR
  rw [unhide hNN] at R0 ⊢
  obtain ⟨xa, xn, xc, ya, yn, yc, rfl⟩ : ∃ xa xn xc ya yn yc, pv = .agg #[.slice xa xn xc, .slice ya yn yc] := by
    obtain ⟨cv, fv, e, h1, h2⟩ := hp
    obtain ⟨_, a, c, e1, _⟩ := h1
    obtain ⟨a2, c2, e2, _⟩ := h2.at
    exact ⟨_, _, _, _, _, _, by rw [e, e1, e2]⟩
  obtain ⟨W1, eW1⟩ : ∃ W1, Hid (W1 = w.alloc (.cells #[.slice xa xn xc, .slice ya yn yc] 25)) := ⟨_, rfl⟩
  have hb1 : Below w.heap.size w W1 := by rw [unhide eW1]; exact (Below.refl _ w).alloc (Nat.le_refl _) _
  obtain ⟨bx, ebx⟩ : ∃ b, Hid (w.heap.size = b) := ⟨_, rfl⟩
  have X1 : Hid (Bx W1 2 bx [.slice xa xn xc, .slice ya yn yc]) := by rw [unhide eW1]; exact Bx.new rfl (unhide ebx)
  have F1 : Hid (Below w.heap.size w W1) := hb1
  have P1 : Hid (PgV W1 (.agg #[.slice xa xn xc, .slice ya yn yc]) p) := hp.below hb1 (Nat.le_refl _)
  have R1 : Hid (Rd W1 (.slice va N vc) B) := (unhide R0).bl hb1
  have K1 : Hid (dg.KT W1) := hk.bl hb1
  clear hl gl oB hR hN hS hok hn hp hk hb1 R0
  go_enter Tryz.func4, Tryz.ntmps4
  go_wp2_with fail
  rw [← unhide eW1, unhide ebx]
  clear eW1
  refine (shown_any ((unhide HL).blw (unhide F1) (unhide HG))).mono ?_
  rintro e W2 ⟨rfl, hb2⟩
  have F2 : Hid (Below w.heap.size w W2) := (unhide F1).trans (hb2.mono (unhide F1).size)
  have R2 : Hid (Rd W2 (.slice va N vc) B) := (unhide R1).bl hb2
  have P2 : Hid (PgV W2 (.agg #[.slice xa xn xc, .slice ya yn yc]) p) := (unhide P1).below hb2 (Nat.le_refl _)
  have K2 : Hid (dg.KT W2) := (unhide K1).bl hb2
  have X2 : Hid (Bx W2 2 bx [.slice xa xn xc, .slice ya yn yc]) := (unhide X1).fr (S := fun _ => False) (Fr.of_below hb2) (fun e => e)
  clear F1 R1 P1 K1 X1
  clear hb2
  have m0 := (unhide X2).cell (j := 0) rfl
  have m1 := (unhide X2).cell (j := 1) rfl
  have lX := (unhide X2).lt
  go_wp2_with fail
  clear m0 m1 lX
  refine (cpP_any (unhide P2) (unhide HS).1 (unhide HS).2.1 (unhide HS).2.2).mono ?_
  rintro e W3 ⟨cv3, fv3, ys3, rfl, ho3, hb3⟩
  have C3 := hide ho3.pgv
  obtain ⟨ka3, kc3, ek3⟩ : ∃ a c, cv3 = .slice a p.consts.length c := by obtain ⟨_, _, e, h, _⟩ := ho3.pgv; cases e; obtain ⟨_, a, c, e, _⟩ := h; exact ⟨a, c, e⟩
  obtain ⟨ta3, tc3, et3⟩ : ∃ a c, fv3 = .slice a p.funcs.length c := by obtain ⟨_, _, e, _, h⟩ := ho3.pgv; cases e; obtain ⟨a, c, e, _⟩ := h.at; exact ⟨a, c, e⟩
  subst ek3 et3
  rw [unhide hNC, unhide hNF] at C3 ⊢
  have F3 : Hid (Below w.heap.size w W3) := (unhide F2).trans (hb3.mono (unhide F2).size)
  have R3 : Hid (Rd W3 (.slice va N vc) B) := (unhide R2).bl hb3
  have P3 : Hid (PgV W3 (.agg #[.slice xa xn xc, .slice ya yn yc]) p) := (unhide P2).below hb3 (Nat.le_refl _)
  have K3 : Hid (dg.KT W3) := (unhide K2).bl hb3
  have X3 : Hid (Bx W3 2 bx [.slice xa xn xc, .slice ya yn yc]) := (unhide X2).fr (S := fun _ => False) (Fr.of_below hb3) (fun e => e)
  clear F2 R2 P2 K2 X2
  clear ho3 hb3
  go_wp2_with fail
  refine (enP_any (unhide C3) (unhide HOK) ((unhide HL).blw (unhide F3) (unhide HG)) (num_nn (unhide HN))).mono ?_
  rintro e W4 ⟨bv, rfl, hb4, hg4, hz4⟩
  obtain ⟨d, hd⟩ : ∃ d, Hid ((enP p).2 = d) := ⟨_, rfl⟩
  rw [unhide hd] at hg4 hz4 ⊢
  obtain ⟨E, hE⟩ : ∃ E, Hid ((enP p).1 = E) := ⟨_, rfl⟩
  rw [unhide hE] at hg4
  have E4 : Hid (d = 0 → Rd W4 bv E) := fun q => Rd.of_ro (Ro.of_own (hg4 q))
  have hbv : ∃ a n c, bv = .slice a n c := by
    by_cases q : d = 0
    · obtain ⟨a, c, e⟩ := (unhide E4 q).shapeR; exact ⟨_, _, _, e⟩
    · exact ⟨_, _, _, hz4 q⟩
  obtain ⟨ea, en, ec, rfl⟩ := hbv
  have F4 : Hid (Below w.heap.size w W4) := (unhide F3).trans (hb4.mono (unhide F3).size)
  have R4 : Hid (Rd W4 (.slice va N vc) B) := (unhide R3).bl hb4
  have P4 : Hid (PgV W4 (.agg #[.slice xa xn xc, .slice ya yn yc]) p) := (unhide P3).below hb4 (Nat.le_refl _)
  have K4 : Hid (dg.KT W4) := (unhide K3).bl hb4
  have X4 : Hid (Bx W4 2 bx [.slice xa xn xc, .slice ya yn yc]) := (unhide X3).fr (S := fun _ => False) (Fr.of_below hb4) (fun e => e)
  clear F3 R3 P3 K3 X3
  clear hb4 hg4 hz4 C3
  have m0 := (unhide X4).cell (j := 0) rfl
  have m1 := (unhide X4).cell (j := 1) rfl
  have lX := (unhide X4).lt
  go_wp2_with fail
  clear m0 m1 lX
  refine (cpP_any (unhide P4) (unhide HS).1 (unhide HS).2.1 (unhide HS).2.2).mono ?_
  rintro e W5 ⟨cv5, fv5, ys5, rfl, ho5, hb5⟩
  have C5 := hide ho5.pgv
  obtain ⟨ka5, kc5, ek5⟩ : ∃ a c, cv5 = .slice a p.consts.length c := by obtain ⟨_, _, e, h, _⟩ := ho5.pgv; cases e; obtain ⟨_, a, c, e, _⟩ := h; exact ⟨a, c, e⟩
  obtain ⟨ta5, tc5, et5⟩ : ∃ a c, fv5 = .slice a p.funcs.length c := by obtain ⟨_, _, e, _, h⟩ := ho5.pgv; cases e; obtain ⟨a, c, e, _⟩ := h.at; exact ⟨a, c, e⟩
  subst ek5 et5
  rw [unhide hNC, unhide hNF] at C5 ⊢
  have F5 : Hid (Below w.heap.size w W5) := (unhide F4).trans (hb5.mono (unhide F4).size)
  have R5 : Hid (Rd W5 (.slice va N vc) B) := (unhide R4).bl hb5
  have P5 : Hid (PgV W5 (.agg #[.slice xa xn xc, .slice ya yn yc]) p) := (unhide P4).below hb5 (Nat.le_refl _)
  have K5 : Hid (dg.KT W5) := (unhide K4).bl hb5
  have X5 : Hid (Bx W5 2 bx [.slice xa xn xc, .slice ya yn yc]) := (unhide X4).fr (S := fun _ => False) (Fr.of_below hb5) (fun e => e)
  clear F4 R4 P4 K4 X4
  have E5 : Hid (d = 0 → Rd W5 (.slice ea en ec) E) := fun q => (unhide E4 q).bl hb5
  clear ho5 hb5 E4
  go_wp2_with fail
  refine (pCheck_any (unhide C5) (unhide HOK) ((unhide HL).blw (unhide F5) (unhide HG))).mono ?_
  rintro e W6 ⟨rfl, hb6⟩
  have E6 : Hid (d = 0 → Rd W6 (.slice ea en ec) E) := fun q => (unhide E5 q).bl hb6
  obtain ⟨k, a, y, hRS, hyy⟩ : ∃ k a y, rsV (ckF p) = .tuple #[.agg #[.int .i64 k, .int .i64 a], .int .i64 y] ∧ ((d = 0 → y = 0) ∧ (d ≠ 0 → d = y ∨ (y = 0 ∧ d = 5))) := by
    cases hc : ckF p with
    | none =>
      refine ⟨0, 0, 0, rfl, fun _ => rfl, fun q => .inr ⟨rfl, ?_⟩⟩
      rcases (enP_err (p := p)).2 hc with e | e
      · exact absurd ((unhide hd).symm.trans e) q
      · exact (unhide hd).symm.trans e
    | some e =>
      obtain ⟨k, a, y⟩ := e
      have := (unhide hd).symm.trans ((enP_err (p := p)).1 k a y hc)
      exact ⟨k, a, y, rfl, fun q => by rw [← this]; exact q, fun _ => .inl this⟩
  rw [hRS]
  have F6 : Hid (Below w.heap.size w W6) := (unhide F5).trans (hb6.mono (unhide F5).size)
  have R6 : Hid (Rd W6 (.slice va N vc) B) := (unhide R5).bl hb6
  have P6 : Hid (PgV W6 (.agg #[.slice xa xn xc, .slice ya yn yc]) p) := (unhide P5).below hb6 (Nat.le_refl _)
  have K6 : Hid (dg.KT W6) := (unhide K5).bl hb6
  have X6 : Hid (Bx W6 2 bx [.slice xa xn xc, .slice ya yn yc]) := (unhide X5).fr (S := fun _ => False) (Fr.of_below hb6) (fun e => e)
  clear F5 R5 P5 K5 X5
  clear hb6 E5 C5 hRS
  obtain ⟨W7, eW7⟩ : ∃ W7, Hid (W7 = W6.alloc (.cells #[.int .i64 k, .int .i64 a] 46)) := ⟨_, rfl⟩
  have hb7 : Below W6.heap.size W6 W7 := by rw [unhide eW7]; exact (Below.refl _ _).alloc (Nat.le_refl _) _
  have E7 : Hid (d = 0 → Rd W7 (.slice ea en ec) E) := fun q => (unhide E6 q).bl hb7
  have F7 : Hid (Below w.heap.size w W7) := (unhide F6).trans (hb7.mono (unhide F6).size)
  have R7 : Hid (Rd W7 (.slice va N vc) B) := (unhide R6).bl hb7
  have P7 : Hid (PgV W7 (.agg #[.slice xa xn xc, .slice ya yn yc]) p) := (unhide P6).below hb7 (Nat.le_refl _)
  have K7 : Hid (dg.KT W7) := (unhide K6).bl hb7
  have X7 : Hid (Bx W7 2 bx [.slice xa xn xc, .slice ya yn yc]) := (unhide X6).fr (S := fun _ => False) (Fr.of_below hb7) (fun e => e)
  clear F6 R6 P6 K6 X6
  clear hb7 E6
  have HTail : Hid (∀ (W8 : World), Below W7.heap.size W7 W8 → True) := fun _ _ => trivial
  by_cases q1 : d = 0
  · subst q1
    have E7' := hide (unhide E7 rfl)
    have hy := hyy.1 rfl
    subst hy
    have HD := hide (decP_back (unhide HN) (unhide hd))
    have BE : Hid (BOk E) := by rw [← unhide hE]; exact enP_bok (unhide HN) (unhide hd)
    have LE : Hid (E.length ≤ 140737488355328) := by
      have := unhide HD
      rw [unhide hE] at this
      have h2 := (decP_rdP (B := E) (by rw [this.1])).1
      unfold Hid; omega
    clear E7 hyy
    have hdp : decP E = (p, 0) := by rw [← unhide hE]; exact (unhide HD).1
    have HDP := hide hdp
    have HEN : Hid (enP p = (E, 0)) := by unfold Hid; rw [← unhide hE, ← unhide hd]
    clear hdp
    go_wp2_with fail
    rw [← unhide eW7]
    clear eW7
    refine (copyBytes_any _ E W7 (unhide E7') (unhide LE)).mono ?_
    rintro e W8 ⟨v8, rfl, ho8, hb8⟩
    have N8 : Hid (Rd W8 v8 E) := Rd.of_ro (Ro.of_own ho8)
    have E8 : Hid (Rd W8 (.slice ea en ec) E) := (unhide E7').bl hb8
    have F8 : Hid (Below w.heap.size w W8) := (unhide F7).trans (hb8.mono (unhide F7).size)
    have R8 : Hid (Rd W8 (.slice va N vc) B) := (unhide R7).bl hb8
    have P8 : Hid (PgV W8 (.agg #[.slice xa xn xc, .slice ya yn yc]) p) := (unhide P7).below hb8 (Nat.le_refl _)
    have K8 : Hid (dg.KT W8) := (unhide K7).bl hb8
    have X8 : Hid (Bx W8 2 bx [.slice xa xn xc, .slice ya yn yc]) := (unhide X7).fr (S := fun _ => False) (Fr.of_below hb8) (fun e => e)
    clear F7 R7 P7 K7 X7
    clear hb8 ho8 E7'
    go_wp2_with fail
    refine (decP_any (unhide N8) (unhide BE) (unhide LE) ((unhide HL).blw (unhide F8) (unhide HG))).mono ?_
    rintro e W9 ⟨pa, pn, pc, qa, qn, qc, rfl, hb9, hp9, -⟩
    rw [unhide HDP] at hp9 ⊢
    have Q9 : Hid (PgV W9 (.agg #[.slice pa pn pc, .slice qa qn qc]) p) := (hp9 rfl).pgv
    have E9 : Hid (Rd W9 (.slice ea en ec) E) := (unhide E8).bl hb9
    have F9 : Hid (Below w.heap.size w W9) := (unhide F8).trans (hb9.mono (unhide F8).size)
    have R9 : Hid (Rd W9 (.slice va N vc) B) := (unhide R8).bl hb9
    have P9 : Hid (PgV W9 (.agg #[.slice xa xn xc, .slice ya yn yc]) p) := (unhide P8).below hb9 (Nat.le_refl _)
    have K9 : Hid (dg.KT W9) := (unhide K8).bl hb9
    have X9 : Hid (Bx W9 2 bx [.slice xa xn xc, .slice ya yn yc]) := (unhide X8).fr (S := fun _ => False) (Fr.of_below hb9) (fun e => e)
    clear F8 R8 P8 K8 X8
    clear hb9 hp9 E8 N8
    obtain ⟨W10, eW10⟩ : ∃ W10, Hid (W10 = W9.alloc (.cells #[.slice pa pn pc, .slice qa qn qc] 25)) := ⟨_, rfl⟩
    have hb10 : Below W9.heap.size W9 W10 := by rw [unhide eW10]; exact (Below.refl _ _).alloc (Nat.le_refl _) _
    obtain ⟨bq, ebq⟩ : ∃ b, Hid (W9.heap.size = b) := ⟨_, rfl⟩
    have Y10 : Hid (Bx W10 2 bq [.slice pa pn pc, .slice qa qn qc]) := by rw [unhide eW10]; exact Bx.new rfl (unhide ebq)
    have E10 : Hid (Rd W10 (.slice ea en ec) E) := (unhide E9).bl hb10
    have F10 : Hid (Below w.heap.size w W10) := (unhide F9).trans (hb10.mono (unhide F9).size)
    have R10 : Hid (Rd W10 (.slice va N vc) B) := (unhide R9).bl hb10
    have P10 : Hid (PgV W10 (.agg #[.slice xa xn xc, .slice ya yn yc]) p) := (unhide P9).below hb10 (Nat.le_refl _)
    have K10 : Hid (dg.KT W10) := (unhide K9).bl hb10
    have X10 : Hid (Bx W10 2 bx [.slice xa xn xc, .slice ya yn yc]) := (unhide X9).fr (S := fun _ => False) (Fr.of_below hb10) (fun e => e)
    have Q10 : Hid (PgV W10 (.agg #[.slice pa pn pc, .slice qa qn qc]) p) := (unhide Q9).below hb10 (Nat.le_refl _)
    clear F9 R9 P9 K9 Q9
    clear hb10 E9
    have m0 := (unhide X9).cell (j := 0) rfl
    have m1 := (unhide X9).cell (j := 1) rfl
    have lX := (unhide X9).lt
    go_wp2_with fail
    rw [← unhide eW10, unhide ebq]
    clear m0 m1 lX eW10 X9
    refine (cpP_any (unhide P10) (unhide HS).1 (unhide HS).2.1 (unhide HS).2.2).mono ?_
    rintro e W11 ⟨cv11, fv11, ys11, rfl, ho11, hb11⟩
    have C11 := hide ho11.pgv
    obtain ⟨ka11, kc11, ek11⟩ : ∃ a c, cv11 = .slice a p.consts.length c := by obtain ⟨_, _, e, h, _⟩ := ho11.pgv; cases e; obtain ⟨_, a, c, e, _⟩ := h; exact ⟨a, c, e⟩
    obtain ⟨ta11, tc11, et11⟩ : ∃ a c, fv11 = .slice a p.funcs.length c := by obtain ⟨_, _, e, _, h⟩ := ho11.pgv; cases e; obtain ⟨a, c, e, _⟩ := h.at; exact ⟨a, c, e⟩
    subst ek11 et11
    rw [unhide hNC, unhide hNF] at C11 ⊢
    have E11 : Hid (Rd W11 (.slice ea en ec) E) := (unhide E10).bl hb11
    have F11 : Hid (Below w.heap.size w W11) := (unhide F10).trans (hb11.mono (unhide F10).size)
    have R11 : Hid (Rd W11 (.slice va N vc) B) := (unhide R10).bl hb11
    have P11 : Hid (PgV W11 (.agg #[.slice xa xn xc, .slice ya yn yc]) p) := (unhide P10).below hb11 (Nat.le_refl _)
    have K11 : Hid (dg.KT W11) := (unhide K10).bl hb11
    have X11 : Hid (Bx W11 2 bx [.slice xa xn xc, .slice ya yn yc]) := (unhide X10).fr (S := fun _ => False) (Fr.of_below hb11) (fun e => e)
    have Q11 : Hid (PgV W11 (.agg #[.slice pa pn pc, .slice qa qn qc]) p) := (unhide Q10).below hb11 (Nat.le_refl _)
    have Y11 : Hid (Bx W11 2 bq [.slice pa pn pc, .slice qa qn qc]) := (unhide Y10).fr (S := fun _ => False) (Fr.of_below hb11) (fun e => e)
    clear F10 R10 P10 K10 X10 Q10 Y10
    clear ho11 hb11 E10
    go_wp2_with fail
    refine (digP_any (unhide C11) (unhide HOK) ((unhide HL).blw (unhide F11) (unhide HG)) (unhide K11) (num_nn (unhide HN)) (unhide HEN) (unhide BE) (unhide LE)).mono ?_
    rintro e W12 ⟨rfl, hb12⟩
    obtain ⟨DD, hDD⟩ : ∃ D, Hid (dg.digF E = D) := ⟨_, rfl⟩
    have HDL : Hid (DD.length = 32) := by rw [← unhide hDD]; exact dg.digF_len E
    rw [unhide hDD]
    have E12 : Hid (Rd W12 (.slice ea en ec) E) := (unhide E11).bl hb12
    have F12 : Hid (Below w.heap.size w W12) := (unhide F11).trans (hb12.mono (unhide F11).size)
    have R12 : Hid (Rd W12 (.slice va N vc) B) := (unhide R11).bl hb12
    have P12 : Hid (PgV W12 (.agg #[.slice xa xn xc, .slice ya yn yc]) p) := (unhide P11).below hb12 (Nat.le_refl _)
    have K12 : Hid (dg.KT W12) := (unhide K11).bl hb12
    have X12 : Hid (Bx W12 2 bx [.slice xa xn xc, .slice ya yn yc]) := (unhide X11).fr (S := fun _ => False) (Fr.of_below hb12) (fun e => e)
    have Q12 : Hid (PgV W12 (.agg #[.slice pa pn pc, .slice qa qn qc]) p) := (unhide Q11).below hb12 (Nat.le_refl _)
    have Y12 : Hid (Bx W12 2 bq [.slice pa pn pc, .slice qa qn qc]) := (unhide Y11).fr (S := fun _ => False) (Fr.of_below hb12) (fun e => e)
    clear F11 R11 P11 K11 X11 Q11 Y11
    clear hb12 E11 C11
    obtain ⟨W13, eW13⟩ : ∃ W13, Hid (W13 = (W12.alloc (.cells (dg.Ar .u8 dg.z32) 30)).setCells W12.heap.size 0 (DD.map (Value.int .u8))) := ⟨_, rfl⟩
    obtain ⟨bd, ebd⟩ : ∃ b, Hid (W12.heap.size = b) := ⟨_, rfl⟩
    obtain ⟨hs13, hb13, hl13⟩ := dg.boxed W12 DD (unhide HDL)
    rw [← unhide eW13] at hs13 hb13 hl13
    have D13 : Hid (dg.Seg W13 bd 0 .u8 DD ∧ bd < W13.heap.size) := by rw [← unhide ebd]; exact ⟨hs13, hl13⟩
    have E13 : Hid (Rd W13 (.slice ea en ec) E) := (unhide E12).bl hb13
    have F13 : Hid (Below w.heap.size w W13) := (unhide F12).trans (hb13.mono (unhide F12).size)
    have R13 : Hid (Rd W13 (.slice va N vc) B) := (unhide R12).bl hb13
    have P13 : Hid (PgV W13 (.agg #[.slice xa xn xc, .slice ya yn yc]) p) := (unhide P12).below hb13 (Nat.le_refl _)
    have K13 : Hid (dg.KT W13) := (unhide K12).bl hb13
    have X13 : Hid (Bx W13 2 bx [.slice xa xn xc, .slice ya yn yc]) := (unhide X12).fr (S := fun _ => False) (Fr.of_below hb13) (fun e => e)
    have Q13 : Hid (PgV W13 (.agg #[.slice pa pn pc, .slice qa qn qc]) p) := (unhide Q12).below hb13 (Nat.le_refl _)
    have Y13 : Hid (Bx W13 2 bq [.slice pa pn pc, .slice qa qn qc]) := (unhide Y12).fr (S := fun _ => False) (Fr.of_below hb13) (fun e => e)
    clear F12 R12 P12 K12 X12 Q12 Y12
    clear hs13 hb13 hl13 E12
    go_wp2_with (first | (refine dg.wpList_alloc_ar rfl 30 rfl (dg.Ar .u8 dg.z32) 32 (unhide hz) ?_) | (refine dg.wpList_store_ar rfl 30 _ _ rfl W12.heap.size 0 rfl .u8 DD 32 rfl (unhide HDL) (dg.there_new W12) dg.Tryz.info30 ?_))
    rw [← unhide eW13, unhide ebd]
    clear eW13
    have HSS : Hid (∀ wx, Below W13.heap.size W13 wx → (Bx wx 2 bq [.slice pa pn pc, .slice qa qn qc] ∧ Bx wx 2 bx [.slice xa xn xc, .slice ya yn yc]) ∧ dg.Seg wx bd 0 .u8 DD) := fun wx f => ⟨⟨(unhide Y13).fr (S := fun _ => False) (Fr.of_below f) (fun e => e), (unhide X13).fr (S := fun _ => False) (Fr.of_below f) (fun e => e)⟩, (unhide D13).1.below f (unhide D13).2⟩
    have hdr : Below W13.heap.size W13 W13.drew := (Fr.refl (fun _ => False) W13).drew.below (Nat.le_refl _) (fun _ _ e => e)
    refine wp_region_held_drew (S := fun wx => (Bx wx 2 bq [.slice pa pn pc, .slice qa qn qc] ∧ Bx wx 2 bx [.slice xa xn xc, .slice ya yn yc]) ∧ dg.Seg wx bd 0 .u8 DD) (by kernel_rfl) (unhide HSS _ hdr) (fun hHeld => ?_)
    refine wpAnyH_take (i := 0) (oi := _) (v := .int .i64 0) rfl (by kernel_rfl) (by kernel_rfl) (by kernel_rfl) (fun _ _ _ h => h) (Or.inl ⟨by rfl, (by intro wx hSw; clear hSw; go_simp)⟩) (by assumption) ?_
    go_simp
    refine wpAnyH_take (i := 1) (oi := _) (v := .bool false) rfl (by kernel_rfl) (by kernel_rfl) (by kernel_rfl) (fun _ _ _ h => h) (Or.inl ⟨by rfl, (by intro wx hSw; clear hSw; go_simp)⟩) (by assumption) ?_
    go_simp
    refine wpAnyH_take (i := 2) (oi := _) (v := .bool false) rfl (by kernel_rfl) (by kernel_rfl) (by kernel_rfl) (fun _ _ _ h => h) (Or.inl ⟨by rfl, (by intro wx hSw; clear hSw; go_simp)⟩) (by assumption) ?_
    go_simp
    refine wpAnyH_take (i := 3) (oi := _) (v := .int .i64 0) rfl (by kernel_rfl) (by kernel_rfl) (by kernel_rfl) (fun _ _ _ h => h) (Or.inl ⟨by rfl, (by intro wx hSw; clear hSw; go_simp)⟩) (by assumption) ?_
    go_simp
    refine wpAnyH_take (i := 4) (oi := _) (v := .bool false) rfl (by kernel_rfl) (by kernel_rfl) (by kernel_rfl) (fun _ _ _ h => h) (Or.inl ⟨by rfl, (by intro wx hSw; clear hSw; go_simp)⟩) (by assumption) ?_
    go_simp
    refine wpAnyH_take (i := 5) (oi := _) (v := .bool false) rfl (by kernel_rfl) (by kernel_rfl) (by kernel_rfl) (fun _ _ _ h => h) (Or.inl ⟨by rfl, (by intro wx hSw; clear hSw; go_simp)⟩) (by assumption) ?_
    go_simp
    refine wpAnyH_take (i := 6) (oi := _) (v := .bool false) rfl (by kernel_rfl) (by kernel_rfl) (by kernel_rfl) (fun _ _ _ h => h) (Or.inl ⟨by rfl, (by intro wx hSw; clear hSw; go_simp)⟩) (by assumption) ?_
    go_simp
    refine wpAnyH_take (i := 7) (oi := _) (v := .int .i64 0) rfl (by kernel_rfl) (by kernel_rfl) (by kernel_rfl) (fun _ _ _ h => h) (Or.inl ⟨by rfl, (by intro wx hSw; clear hSw; go_simp)⟩) (by assumption) ?_
    go_simp
    refine wpAnyH_take (i := 8) (oi := _) (v := .bool false) rfl (by kernel_rfl) (by kernel_rfl) (by kernel_rfl) (fun _ _ _ h => h) (Or.inl ⟨by rfl, (by intro wx hSw; clear hSw; go_simp)⟩) (by assumption) ?_
    go_simp
    refine wpAnyH_take (i := 9) (oi := _) (v := .bool false) rfl (by kernel_rfl) (by kernel_rfl) (by kernel_rfl) (fun _ _ _ h => h) (Or.inl ⟨by rfl, (by intro wx hSw; clear hSw; go_simp)⟩) (by assumption) ?_
    go_simp
    refine wpAnyH_take (i := 10) (oi := _) (v := .bool false) rfl (by kernel_rfl) (by kernel_rfl) (by kernel_rfl) (fun _ _ _ h => h) (Or.inl ⟨by rfl, (by intro wx hSw; clear hSw; go_simp)⟩) (by assumption) ?_
    go_simp
    refine wpAnyH_take (i := 11) (oi := _) (v := .agg #[.slice pa pn pc, .slice qa qn qc]) rfl (by kernel_rfl) (by kernel_rfl) (by kernel_rfl) (fun _ _ _ h => h) (Or.inl ⟨by rfl, (by intro wx hSw; have c0 := hSw.1.1.cell (j := 0) rfl; have c1 := hSw.1.1.cell (j := 1) rfl; clear hSw; go_simp)⟩) (by assumption) ?_
    go_simp
    refine wpAnyH_take (i := 12) (oi := _) (v := .agg #[.slice xa xn xc, .slice ya yn yc]) rfl (by kernel_rfl) (by kernel_rfl) (by kernel_rfl) (fun _ _ _ h => h) (Or.inl ⟨by rfl, (by intro wx hSw; have c0 := hSw.1.2.cell (j := 0) rfl; have c1 := hSw.1.2.cell (j := 1) rfl; clear hSw; go_simp)⟩) (by assumption) ?_
    go_simp
    refine wpAnyH_ready (rs := [13]) (by kernel_rfl) (by simp) ?_
    refine AllReadyH.cons (o := _) rfl (fun K hK => ?_) AllReadyH.nil
    go_simp
    have Qd := hide ((unhide Q13).below hdr (Nat.le_refl _))
    have Pd := hide ((unhide P13).below hdr (Nat.le_refl _))
    have hck := (unhide HD).2
    refine (sameP_any (w := W13.drew) (unhide Qd) (unhide Pd) (by have := (unhide HS).2.1; omega) (by have := (unhide HS).1; omega) (fun f hf => by obtain ⟨i, hi⟩ := List.getElem?_of_mem hf; have := (unhide HS).2.2 i f hi; omega)).mono ?_
    rintro e W14 ⟨rfl, hc14⟩
    have hb14 : Below W13.heap.size W13 W14 := hdr.trans (hc14.mono hdr.size)
    have hS14 := unhide HSS _ hb14
    have E14 : Hid (Rd W14 (.slice ea en ec) E) := (unhide E13).bl hb14
    have B14 := hide hb14
    have F14 : Hid (Below w.heap.size w W14) := (unhide F13).trans (hb14.mono (unhide F13).size)
    have R14 : Hid (Rd W14 (.slice va N vc) B) := (unhide R13).bl hb14
    have P14 : Hid (PgV W14 (.agg #[.slice xa xn xc, .slice ya yn yc]) p) := (unhide P13).below hb14 (Nat.le_refl _)
    have K14 : Hid (dg.KT W14) := (unhide K13).bl hb14
    have X14 : Hid (Bx W14 2 bx [.slice xa xn xc, .slice ya yn yc]) := (unhide X13).fr (S := fun _ => False) (Fr.of_below hb14) (fun e => e)
    clear F13 R13 P13 K13 X13
    clear hb14 hc14 E13 Qd Pd Q13
    go_simp
    refine hK.out _ _ hS14 (fun hHeld1 => ?_)
    clear hK K
    refine wpAnyH_take (i := 14) (oi := _) (v := .bool false) rfl (by kernel_rfl) (by kernel_rfl) (by kernel_rfl) (fun _ _ _ h => h) (Or.inl ⟨by rfl, (by intro wx hSw; clear hSw; go_simp)⟩) (by assumption) ?_
    go_simp
    refine wpAnyH_take (i := 15) (oi := _) (v := .bool false) rfl (by kernel_rfl) (by kernel_rfl) (by kernel_rfl) (fun _ _ _ h => h) (Or.inl ⟨by rfl, (by intro wx hSw; clear hSw; go_simp)⟩) (by assumption) ?_
    go_simp
    refine wpAnyH_take (i := 16) (oi := _) (v := .bool false) rfl (by kernel_rfl) (by kernel_rfl) (by kernel_rfl) (fun _ _ _ h => h) (Or.inl ⟨by rfl, (by intro wx hSw; clear hSw; go_simp)⟩) (by assumption) ?_
    go_simp
    refine wpAnyH_take (i := 17) (oi := _) (v := .agg (dg.Ar .u8 DD)) rfl (by kernel_rfl) (by kernel_rfl) (by kernel_rfl) (fun _ _ _ h => h) (yieldsIf_load_mid (by rfl) 30 _ rfl bd 0 rfl (DD.map (Value.int .u8)) _ (fun w h => h.2.1) Tryz.underlying30 rfl (by rw [List.length_map, unhide HDL]; exact dg.Tryz.info30)) (by assumption) ?_
    go_simp
    refine wpAnyH_take (i := 18) (oi := _) (v := .slice ea en ec) rfl (by kernel_rfl) (by kernel_rfl) (by kernel_rfl) (fun _ _ _ h => h) (Or.inl ⟨by rfl, (by intro wx hSw; clear hSw; go_simp)⟩) (by assumption) ?_
    go_simp
    refine wpAnyH_ready (rs := [19]) (by kernel_rfl) (by simp) ?_
    refine AllReadyH.cons (o := _) rfl (fun K hK => ?_) AllReadyH.nil
    go_simp
    refine (dg.dsum_any _ E W14 (unhide E14).dg (unhide BE).dg (unhide LE) (unhide K14)).mono ?_
    rintro e W15 ⟨rfl, hb15⟩
    rw [unhide hDD]
    have hS15 := unhide HSS _ ((unhide B14).trans (hb15.mono (unhide B14).size))
    have F15 : Hid (Below w.heap.size w W15) := (unhide F14).trans (hb15.mono (unhide F14).size)
    have R15 : Hid (Rd W15 (.slice va N vc) B) := (unhide R14).bl hb15
    clear F14 R14
    clear hb15 E14
    go_simp
    refine hK.out _ _ hS15 (fun hHeld2 => ?_)
    clear hK K
    refine wpAnyH_take (i := 20) (oi := _) (v := .bool false) rfl (by kernel_rfl) (by kernel_rfl) (by kernel_rfl) (fun _ _ _ h => h) (dg.yieldsIf_neq30 (by rfl) _ _ _ rfl DD rfl rfl (unhide HDL)) (by assumption) ?_
    go_simp
    refine wpAnyH_take (i := 21) (oi := _) (v := .bool false) rfl (by kernel_rfl) (by kernel_rfl) (by kernel_rfl) (fun _ _ _ h => h) (Or.inl ⟨by rfl, (by intro wx hSw; clear hSw; go_simp)⟩) (by assumption) ?_
    go_simp
    refine wpAnyH_done (by kernel_rfl) ?_ _
    clear hHeld hHeld1 hHeld2 hS14 hS15 HSS hdr hck B14 P14 K14 X14 Y13 D13
    go_wp2_with fail
    refine (copyBytes_any _ B W15 (unhide R15) (unhide NB)).mono ?_
    rintro e W16 ⟨v16, rfl, ho16, hb16⟩
    have N16 : Hid (Rd W16 v16 B) := Rd.of_ro (Ro.of_own ho16)
    have F16 : Hid (Below w.heap.size w W16) := (unhide F15).trans (hb16.mono (unhide F15).size)
    have R16 : Hid (Rd W16 (.slice va N vc) B) := (unhide R15).bl hb16
    clear ho16 hb16 F15 R15
    go_wp2_with fail
    refine (decP_any (unhide N16) (unhide OB) (unhide NB) ((unhide HL).blw (unhide F16) (unhide HG))).mono ?_
    rintro e W17 ⟨ra, rn, rc, sa, sn, sc, rfl, hb17, hp17, -⟩
    obtain ⟨d3, hd3⟩ : ∃ d, Hid ((decP B).2 = d) := ⟨_, rfl⟩
    rw [unhide hd3] at hp17 ⊢
    have HPW := hide hp17
    have F17 : Hid (Below w.heap.size w W17) := (unhide F16).trans (hb17.mono (unhide F16).size)
    have R17 : Hid (Rd W17 (.slice va N vc) B) := (unhide R16).bl hb17
    clear hb17 hp17 F16 R16 N16
    by_cases q3 : d3 = 0
    case neg =>
      have i3 : (d3 != 0) = true := by simpa using q3
      go_wp2_with fail
      go_ret
      exact ⟨rfl, (unhide F17).trans (((Below.refl _ _).alloc (Nat.le_refl _) _).mono (unhide F17).size)⟩
    subst q3
    have PW17 := hide ((unhide HPW) rfl)
    clear HPW
    obtain ⟨W18, eW18⟩ : ∃ W, Hid (W = W17.alloc (.cells #[.slice ra rn rc, .slice sa sn sc] 25)) := ⟨_, rfl⟩
    have hb18 : Below W17.heap.size W17 W18 := by rw [unhide eW18]; exact (Below.refl _ _).alloc (Nat.le_refl _) _
    have F18 : Hid (Below w.heap.size w W18) := (unhide F17).trans (hb18.mono (unhide F17).size)
    have R18 : Hid (Rd W18 (.slice va N vc) B) := (unhide R17).bl hb18
    have G18 : Hid (PgV W18 (.agg #[.slice ra rn rc, .slice sa sn sc]) (decP B).1) := (unhide PW17).pgv.below hb18 (Nat.le_refl _)
    clear hb18 F17 R17 PW17
    go_wp2_with fail
    rw [← unhide eW18]
    clear eW18
    refine (enP_any (unhide G18) (decP_ok (unhide hd3)).1 ((unhide HL).blw (unhide F18) (unhide HG)) (fun _ => decP_nn (unhide OB) (unhide hd3))).mono ?_
    rw [decP_one (unhide OB) (unhide hd3)]
    rintro e W19 ⟨zv, rfl, hb19, hg19, -⟩
    have Z19 : Hid (Rd W19 zv B) := Rd.of_ro (Ro.of_own (hg19 rfl))
    have F19 : Hid (Below w.heap.size w W19) := (unhide F18).trans (hb19.mono (unhide F18).size)
    have R19 : Hid (Rd W19 (.slice va N vc) B) := (unhide R18).bl hb19
    clear hb19 hg19 F18 R18 G18
    go_wp2_with fail
    refine (same_any _ _ B W19 (unhide Z19) (unhide R19)).mono ?_
    rintro e W20 ⟨rfl, kk, ek⟩
    have hb20 : Below W19.heap.size W19 W20 := by rw [ek]; exact (Fr.drewN (S := fun _ => False) kk).below (Nat.le_refl _) (fun _ _ e => e)
    have F20 : Hid (Below w.heap.size w W20) := (unhide F19).trans (hb20.mono (unhide F19).size)
    clear hb20 ek Z19 R19 F19
    go_wp2_with fail
    go_ret
    exact ⟨rfl, unhide F20⟩
  · have i1 : (d == 0) = false := by simpa using q1
    have i2 : (d != 0) = true := by simpa using q1
    have hyy := hyy.2 q1
    clear P7 K7 X7 E7
    rcases hyy with rfl | ⟨rfl, rfl⟩
    · skip
      go_wp2_with fail
      rw [← unhide eW7]
      clear eW7
      refine (copyBytes_any _ B W7 (unhide R7) (unhide NB)).mono ?_
      rintro e W8 ⟨v8, rfl, ho8, hb8⟩
      have N8 : Hid (Rd W8 v8 B) := Rd.of_ro (Ro.of_own ho8)
      have F8 : Hid (Below w.heap.size w W8) := (unhide F7).trans (hb8.mono (unhide F7).size)
      have R8 : Hid (Rd W8 (.slice va N vc) B) := (unhide R7).bl hb8
      clear ho8 hb8 F7 R7
      go_wp2_with fail
      refine (decP_any (unhide N8) (unhide OB) (unhide NB) ((unhide HL).blw (unhide F8) (unhide HG))).mono ?_
      rintro e W9 ⟨ra, rn, rc, sa, sn, sc, rfl, hb9, hp9, -⟩
      obtain ⟨d3, hd3⟩ : ∃ d, Hid ((decP B).2 = d) := ⟨_, rfl⟩
      rw [unhide hd3] at hp9 ⊢
      have HPW := hide hp9
      have F9 : Hid (Below w.heap.size w W9) := (unhide F8).trans (hb9.mono (unhide F8).size)
      have R9 : Hid (Rd W9 (.slice va N vc) B) := (unhide R8).bl hb9
      clear hb9 hp9 F8 R8 N8
      by_cases q3 : d3 = 0
      case neg =>
        have i3 : (d3 != 0) = true := by simpa using q3
        go_wp2_with fail
        go_ret
        exact ⟨rfl, (unhide F9).trans (((Below.refl _ _).alloc (Nat.le_refl _) _).mono (unhide F9).size)⟩
      subst q3
      have PW9 := hide ((unhide HPW) rfl)
      clear HPW
      obtain ⟨W10, eW10⟩ : ∃ W, Hid (W = W9.alloc (.cells #[.slice ra rn rc, .slice sa sn sc] 25)) := ⟨_, rfl⟩
      have hb10 : Below W9.heap.size W9 W10 := by rw [unhide eW10]; exact (Below.refl _ _).alloc (Nat.le_refl _) _
      have F10 : Hid (Below w.heap.size w W10) := (unhide F9).trans (hb10.mono (unhide F9).size)
      have R10 : Hid (Rd W10 (.slice va N vc) B) := (unhide R9).bl hb10
      have G10 : Hid (PgV W10 (.agg #[.slice ra rn rc, .slice sa sn sc]) (decP B).1) := (unhide PW9).pgv.below hb10 (Nat.le_refl _)
      clear hb10 F9 R9 PW9
      go_wp2_with fail
      rw [← unhide eW10]
      clear eW10
      refine (enP_any (unhide G10) (decP_ok (unhide hd3)).1 ((unhide HL).blw (unhide F10) (unhide HG)) (fun _ => decP_nn (unhide OB) (unhide hd3))).mono ?_
      rw [decP_one (unhide OB) (unhide hd3)]
      rintro e W11 ⟨zv, rfl, hb11, hg11, -⟩
      have Z11 : Hid (Rd W11 zv B) := Rd.of_ro (Ro.of_own (hg11 rfl))
      have F11 : Hid (Below w.heap.size w W11) := (unhide F10).trans (hb11.mono (unhide F10).size)
      have R11 : Hid (Rd W11 (.slice va N vc) B) := (unhide R10).bl hb11
      clear hb11 hg11 F10 R10 G10
      go_wp2_with fail
      refine (same_any _ _ B W11 (unhide Z11) (unhide R11)).mono ?_
      rintro e W12 ⟨rfl, kk, ek⟩
      have hb12 : Below W11.heap.size W11 W12 := by rw [ek]; exact (Fr.drewN (S := fun _ => False) kk).below (Nat.le_refl _) (fun _ _ e => e)
      have F12 : Hid (Below w.heap.size w W12) := (unhide F11).trans (hb12.mono (unhide F11).size)
      clear hb12 ek Z11 R11 F11
      go_wp2_with fail
      go_ret
      exact ⟨rfl, unhide F12⟩
    · skip
      go_wp2_with fail
      rw [← unhide eW7]
      clear eW7
      refine (copyBytes_any _ B W7 (unhide R7) (unhide NB)).mono ?_
      rintro e W8 ⟨v8, rfl, ho8, hb8⟩
      have N8 : Hid (Rd W8 v8 B) := Rd.of_ro (Ro.of_own ho8)
      have F8 : Hid (Below w.heap.size w W8) := (unhide F7).trans (hb8.mono (unhide F7).size)
      have R8 : Hid (Rd W8 (.slice va N vc) B) := (unhide R7).bl hb8
      clear ho8 hb8 F7 R7
      go_wp2_with fail
      refine (decP_any (unhide N8) (unhide OB) (unhide NB) ((unhide HL).blw (unhide F8) (unhide HG))).mono ?_
      rintro e W9 ⟨ra, rn, rc, sa, sn, sc, rfl, hb9, hp9, -⟩
      obtain ⟨d3, hd3⟩ : ∃ d, Hid ((decP B).2 = d) := ⟨_, rfl⟩
      rw [unhide hd3] at hp9 ⊢
      have HPW := hide hp9
      have F9 : Hid (Below w.heap.size w W9) := (unhide F8).trans (hb9.mono (unhide F8).size)
      have R9 : Hid (Rd W9 (.slice va N vc) B) := (unhide R8).bl hb9
      clear hb9 hp9 F8 R8 N8
      by_cases q3 : d3 = 0
      case neg =>
        have i3 : (d3 != 0) = true := by simpa using q3
        go_wp2_with fail
        go_ret
        exact ⟨rfl, (unhide F9).trans (((Below.refl _ _).alloc (Nat.le_refl _) _).mono (unhide F9).size)⟩
      subst q3
      have PW9 := hide ((unhide HPW) rfl)
      clear HPW
      obtain ⟨W10, eW10⟩ : ∃ W, Hid (W = W9.alloc (.cells #[.slice ra rn rc, .slice sa sn sc] 25)) := ⟨_, rfl⟩
      have hb10 : Below W9.heap.size W9 W10 := by rw [unhide eW10]; exact (Below.refl _ _).alloc (Nat.le_refl _) _
      have F10 : Hid (Below w.heap.size w W10) := (unhide F9).trans (hb10.mono (unhide F9).size)
      have R10 : Hid (Rd W10 (.slice va N vc) B) := (unhide R9).bl hb10
      have G10 : Hid (PgV W10 (.agg #[.slice ra rn rc, .slice sa sn sc]) (decP B).1) := (unhide PW9).pgv.below hb10 (Nat.le_refl _)
      clear hb10 F9 R9 PW9
      go_wp2_with fail
      rw [← unhide eW10]
      clear eW10
      refine (enP_any (unhide G10) (decP_ok (unhide hd3)).1 ((unhide HL).blw (unhide F10) (unhide HG)) (fun _ => decP_nn (unhide OB) (unhide hd3))).mono ?_
      rw [decP_one (unhide OB) (unhide hd3)]
      rintro e W11 ⟨zv, rfl, hb11, hg11, -⟩
      have Z11 : Hid (Rd W11 zv B) := Rd.of_ro (Ro.of_own (hg11 rfl))
      have F11 : Hid (Below w.heap.size w W11) := (unhide F10).trans (hb11.mono (unhide F10).size)
      have R11 : Hid (Rd W11 (.slice va N vc) B) := (unhide R10).bl hb11
      clear hb11 hg11 F10 R10 G10
      go_wp2_with fail
      refine (same_any _ _ B W11 (unhide Z11) (unhide R11)).mono ?_
      rintro e W12 ⟨rfl, kk, ek⟩
      have hb12 : Below W11.heap.size W11 W12 := by rw [ek]; exact (Fr.drewN (S := fun _ => False) kk).below (Nat.le_refl _) (fun _ _ e => e)
      have F12 : Hid (Below w.heap.size w W12) := (unhide F11).trans (hb12.mono (unhide F11).size)
      clear hb12 ek Z11 R11 F11
      go_wp2_with fail
      go_ret
      exact ⟨rfl, unhide F12⟩
end Go.Proofs.YtlogmdldjmkkjaaGreatDoor
