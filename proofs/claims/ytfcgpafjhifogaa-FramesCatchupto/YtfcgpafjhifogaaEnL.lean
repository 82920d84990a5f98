/-
  FramesEnter: its law.
-/
import Derived.Test.YtfcgpafjhifogaaSh
import Derived.Test.YtfcgpafjhifogaaREnt
import Derived.Test.YtfcgpafjhifogaaApV
import Derived.Test.YtfcgpafjhifogaaLent
import Derived.Test.YtfcgpafjhifogaaKP
namespace Go.Proofs.Ytfcgpafjhifogaa
open Go.RowKit
set_option linter.unusedVariables false
set_option linter.unusedSimpArgs false
theorem bool_neqE : ∀ (b c : Bool) (w : World), (binOp .neq 4 (.bool b) (.bool c)).run Try.prog w = .ok (.bool (b != c)) w := fun b c w => by cases b <;> cases c <;> kernel_rfl
theorem fr_three (w4 : World) (q : Nat) (a b c : Value) : Fr (fun z => z = q) w4 (((w4.setCell ⟨q, 0, none⟩ a).setCell ⟨q, 1, none⟩ b).setCell ⟨q, 2, none⟩ c) := (((Fr.refl (fun z => z = q) w4).setCell ⟨q, 0, none⟩ (.inr rfl) a).setCell ⟨q, 1, none⟩ (.inr rfl) b).setCell ⟨q, 2, none⟩ (.inr rfl) c
/-- What stays while the law goes on. -/
structure EnI (w0 : World) (P Q : Nat) (paa : Option Addr) (pan pac : Nat) (pba : Option Addr) (pbn pbc : Nat) (cg co NC ccap fg fo NF fcap : Nat) (ys : List Fv) (aa : Option Addr) (an ac : Nat) (la : Option Addr) (ln lc : Nat) (p : Pg) (args : List (Int × Int)) (X : World) : Prop where
  bp : X.heap[P]? = some (.cells #[.slice paa pan pac, .slice pba pbn pbc] 25)
  bq : X.heap[Q]? = some (.cells #[.slice (some ⟨cg, co, none⟩) NC ccap, .slice (some ⟨fg, fo, none⟩) NF fcap] 25)
  pg : PgV X (.agg #[.slice paa pan pac, .slice pba pbn pbc]) p
  ar : Rx X 2 (.slice aa an ac) args.length (flt enI args)
  lt : Lnt w0 p cg co ccap fg fo fcap ys X
  lv : Rx X 2 (.slice la ln lc) (args ++ mkV 64).length (flt enI (args ++ mkV 64))
section
variable {w0 : World} {P Q : Nat} {paa : Option Addr} {pan pac : Nat} {pba : Option Addr} {pbn pbc : Nat} {cg co NC ccap fg fo NF fcap : Nat} {ys : List Fv} {aa : Option Addr} {an ac : Nat} {la : Option Addr} {ln lc : Nat} {p : Pg} {args : List (Int × Int)} {X Y : World}
theorem EnI.below (h : EnI w0 P Q paa pan pac pba pbn pbc cg co NC ccap fg fo NF fcap ys aa an ac la ln lc p args X) (hb : Below X.heap.size X Y) : EnI w0 P Q paa pan pac pba pbn pbc cg co NC ccap fg fo NF fcap ys aa an ac la ln lc p args Y :=
  ⟨blkT h.bp hb, blkT h.bq hb, h.pg.below hb (Nat.le_refl _), h.ar.below hb (Nat.le_refl _), h.lt.keep hb, h.lv.below hb (Nat.le_refl _)⟩
theorem EnI.cells (h : EnI w0 P Q paa pan pac pba pbn pbc cg co NC ccap fg fo NF fcap ys aa an ac la ln lc p args X) :
    X.cell? ⟨P, 0, none⟩ = some (.slice paa pan pac) ∧ X.cell? ⟨P, 1, none⟩ = some (.slice pba pbn pbc) ∧ X.cell? ⟨Q, 0, none⟩ = some (.slice (some ⟨cg, co, none⟩) NC ccap) ∧ X.cell? ⟨Q, 1, none⟩ = some (.slice (some ⟨fg, fo, none⟩) NF fcap) :=
  ⟨(blk_cells h.bp).1 0, (blk_cells h.bp).1 1, (blk_cells h.bq).1 0, (blk_cells h.bq).1 1⟩
theorem EnI.ltt (h : EnI w0 P Q paa pan pac pba pbn pbc cg co NC ccap fg fo NF fcap ys aa an ac la ln lc p args X) : P < X.heap.size ∧ Q < X.heap.size := ⟨(blk_cells h.bp).2.2, (blk_cells h.bq).2.2⟩
end
set_option maxRecDepth 100000 in
set_option maxHeartbeats 6400000 in
theorem enterLaw {w : World} {pv av : Value} {p : Pg} {args : List (Int × Int)} (fn : Int) (h : PgV w pv p) (ha : Rx w 2 av args.length (flt enI args)) (hN : p.funcs.length ≤ 1048576) (hC : p.consts.length ≤ 1048576) (hBD : ∀ (i : Nat) (f : Fc), p.funcs[i]? = some f → f.code.length ≤ 1048576 ∧ f.hs.length ≤ 1048576) (hA : args.length ≤ 1048576) :
    Calls Try.prog 3 #[pv, .int .i64 fn, av] w fun e w' => e = .returned (.bool true) ∧ Below w.heap.size w w' := by
  obtain ⟨pa, pb, rfl⟩ : ∃ a b, pv = .agg #[a, b] := by obtain ⟨a, b, e, _⟩ := h; exact ⟨a, b, e⟩
  obtain ⟨paa, pan, pac, epa⟩ : ∃ a n c, pa = .slice a n c := by
    obtain ⟨_, _, e, ⟨_, a, c, e2, _⟩, _⟩ := h
    cases e; exact ⟨a, _, c, e2⟩
  obtain ⟨pba, pbn, pbc, epb⟩ : ∃ a n c, pb = .slice a n c := by
    obtain ⟨_, _, e, _, hfs⟩ := h
    obtain ⟨a, c, e2, _⟩ := hfs.at
    cases e; exact ⟨a, _, c, e2⟩
  subst epa epb
  obtain ⟨aa, ac, rfl, hac, hacm⟩ : ∃ a c, av = .slice a args.length c ∧ args.length ≤ c ∧ c ≤ maxLen := by obtain ⟨_, a, c, e, h1, h2, _⟩ := ha; exact ⟨a, c, e, h1, h2⟩
  have HP := hide h
  obtain ⟨an, han⟩ : ∃ N, Hid (args.length = N) := ⟨_, hide rfl⟩
  have HA' : Hid (Rx w 2 (.slice aa an ac) args.length (flt enI args)) := by rw [← unhide han]; exact ha
  have HAN := hide hA
  have HBD := hide hBD
  rw [unhide han] at hA hac ⊢
  clear h ha hBD
  have HL9 := hide (fun (Y : World) (hb : Below w.heap.size w Y) => lent_any ((unhide HP).below hb (Nat.le_refl _)) hN hC (unhide HBD))
  go_enter Try.func3, Try.ntmps3
  go_wp2_with fail
  refine (unhide HL9 _ ((Below.refl _ w).alloc (Nat.le_refl _) _)).mono ?_
  rintro e w1 ⟨cg, co, ccap, fg, fo, fcap, ys, rfl, hlt⟩
  obtain ⟨NC, hNC⟩ : ∃ N, Hid (p.consts.length = N) := ⟨_, hide rfl⟩
  obtain ⟨NF, hNF⟩ : ∃ N, Hid (p.funcs.length = N) := ⟨_, hide rfl⟩
  rw [unhide hNC, unhide hNF]
  obtain ⟨W0, hW0⟩ : ∃ W0, Hid (w.alloc (.cells #[.slice paa pan pac, .slice pba pbn pbc] 25) = W0) := ⟨_, hide rfl⟩
  have hlt' : Lnt W0 p cg co ccap fg fo fcap ys w1 := by rw [← unhide hW0]; exact hlt
  have HLT := hide hlt'
  have hbw0 : Below w.heap.size w W0 := by rw [← unhide hW0]; exact (Below.refl _ w).alloc (Nat.le_refl _) _
  have HB1 : Hid (Below w.heap.size w w1) := hbw0.trans (hlt'.below.mono hbw0.size)
  have HBP : Hid (w1.heap[w.heap.size]? = some (.cells #[.slice paa pan pac, .slice pba pbn pbc] 25)) := blkT (by rw [← unhide hW0]; exact heap_alloc_new w _) hlt'.below
  clear hlt hlt' hbw0 hW0 HL9
  -- the values lent
  have HL10 := hide (fun (Y : World) (hb : Below w.heap.size w Y) => lentV_any ((unhide HA').below hb (Nat.le_refl _)) (by have := unhide HAN; omega))
  go_wp2_with fail
  refine (unhide HL10 _ ((unhide HB1).alloc (unhide HB1).size _)).mono ?_
  rintro e w2 ⟨v2, rfl, hg2⟩
  obtain ⟨la, lc, ev2, hlc1, hlc2⟩ := hg2.1.shape
  subst ev2
  obtain ⟨ln, hln⟩ : ∃ N, Hid ((args ++ mkV 64).length = N) := ⟨_, hide rfl⟩
  rw [unhide hln] at hlc1 ⊢
  obtain ⟨P, hP⟩ : ∃ P, Hid (w.heap.size = P) := ⟨_, hide rfl⟩
  obtain ⟨Q, hQ⟩ : ∃ P, Hid (w1.heap.size = P) := ⟨_, hide rfl⟩
  have hb2 : Below w1.heap.size w1 w2 := ((Below.refl _ w1).alloc (Nat.le_refl _) _).trans (hg2.2.1.mono (by simp))
  have HXB : Hid (Below w.heap.size w w2) := (unhide HB1).trans (hb2.mono (unhide HB1).size)
  have HU : Hid (EnI W0 P Q paa pan pac pba pbn pbc cg co NC ccap fg fo NF fcap ys aa an ac la ln lc p args w2) := by
    rw [← unhide hP, ← unhide hQ]
    refine ⟨blkT (unhide HBP) hb2, blkT (heap_alloc_new w1 _) hg2.2.1, (unhide HP).below (unhide HXB) (Nat.le_refl _), (unhide HA').below (unhide HXB) (Nat.le_refl _), (unhide HLT).keep hb2, ?_⟩
    rw [← unhide hln]
    exact Rx.of_ro hg2.1
  rw [unhide hP, unhide hQ]
  clear hg2 hb2 HL10 HB1 HBP HLT HP HA'
  obtain ⟨X, hX⟩ : ∃ X, X = w2 := ⟨_, rfl⟩
  subst hX
  obtain ⟨X0, hX0⟩ : ∃ Z, Hid (X = Z) := ⟨X, hide rfl⟩
  have HU0 : Hid (EnI W0 P Q paa pan pac pba pbn pbc cg co NC ccap fg fo NF fcap ys aa an ac la ln lc p args X0) := by rw [← unhide hX0]; exact unhide HU
  have HXW : Hid (Below w.heap.size w X0) := by rw [← unhide hX0]; exact unhide HXB
  have HFIN : Hid (∀ Y, Below X.heap.size X Y → Below X0.heap.size X0 Y) := by rw [← unhide hX0]; exact fun Y hb => hb
  clear HXB hX0
  have hlnan : ln = an + 64 := by rw [← unhide hln, lmV_length, unhide han]
  have hanl : an ≤ ln := by omega
  have HLN := hide hlnan
  clear hlnan
  unfold maxLen at hlc2 hacm
  obtain ⟨o, ho⟩ : ∃ o, Hid (enF' p fn args = o) := ⟨_, hide rfl⟩
  obtain ⟨f, hf⟩ : ∃ f, Hid (o.getD fm0 = f) := ⟨_, hide rfl⟩
  obtain ⟨ob, hob⟩ : ∃ b, Hid (o.isSome = b) := ⟨_, hide rfl⟩
  have HEN : Hid (∀ (Y : World) (pv av : Value), PgV Y pv p → Rx Y 2 av args.length (flt enI args) → Calls Try.prog 12 #[pv, .int .i64 fn, av] Y fun e w' => ∃ sa sc, e = .returned (.tuple #[.agg #[.int .i64 f.fn, .int .i64 f.pc, .slice sa f.sl.length sc], .bool ob]) ∧ Gx Y 2 enI f.sl (.slice sa f.sl.length sc) w' ∧ f.sl.length ≤ sc ∧ sc ≤ maxLen) := fun Y pv av h1 h2 => (enter_any fn h1 h2 hN (unhide HAN)).mono (by
    rw [unhide ho]
    rintro e w' ⟨sv, e1, hg⟩
    rw [unhide hf] at hg e1
    rw [unhide hob] at e1
    obtain ⟨sa, sc, e2, h3, h4⟩ := hg.1.shape
    subst e2
    exact ⟨sa, sc, e1, hg, h3, h4⟩)
  have HRE : Hid (∀ (Y : World) (pv av : Value), PgV Y pv p → Rx Y 2 av args.length (flt enI args) → Calls Try.prog 11 #[pv, .int .i64 fn, av] Y fun e w' => ∃ sa sc, e = .returned (.tuple #[.agg #[.int .i64 f.fn, .int .i64 f.pc, .slice sa f.sl.length sc], .bool ob]) ∧ Gx Y 2 enI f.sl (.slice sa f.sl.length sc) w' ∧ f.sl.length ≤ sc ∧ sc ≤ maxLen) := fun Y pv av h1 h2 => (renter_any fn h1 h2 hN (unhide HAN)).mono (by
    rw [unhide ho]
    rintro e w' ⟨sv, e1, hg⟩
    rw [unhide hf] at hg e1
    rw [unhide hob] at e1
    obtain ⟨sa, sc, e2, h3, h4⟩ := hg.1.shape
    subst e2
    exact ⟨sa, sc, e1, hg, h3, h4⟩)
  have HFL : Hid (f.sl.length ≤ 1048576) := by
    unfold Hid
    rw [← unhide hf, ← unhide ho]
    unfold enF' enG
    split
    · exact Nat.zero_le _
    · split
      · rename_i q; simp; omega
      · exact Nat.zero_le _
  clear ho hf hob
  obtain ⟨FL, hFL⟩ : ∃ L, Hid (f.sl.length = L) := ⟨_, hide rfl⟩
  rw [unhide hFL] at HEN HRE HFL
  obtain ⟨g0, g1, g2, g3⟩ := (unhide HU).cells
  obtain ⟨lP, lQ⟩ := (unhide HU).ltt
  have HC := hide (unhide HRE X _ _ (unhide HU).pg (unhide HU).ar)
  go_wp2_with fail
  refine (unhide HC).mono ?_
  rintro e w3 ⟨sa1, sc1, rfl, hg3, hs31, hs32⟩
  have HR1 := hide hg3
  go_wp2_with fail
  obtain ⟨F1, hF1⟩ : ∃ P, Hid (w3.heap.size = P) := ⟨_, hide rfl⟩
  obtain ⟨Zw, hZ⟩ : ∃ Zw, Hid (w3.alloc (.cells #[.int .i64 f.fn, .int .i64 f.pc, .slice sa1 FL sc1] 30) = Zw) := ⟨_, hide rfl⟩
  have hbZ : Below X.heap.size X Zw := by rw [← unhide hZ]; exact hg3.2.1.alloc hg3.2.1.size _
  have HF1 : Hid (Zw.heap[F1]? = some (.cells #[.int .i64 f.fn, .int .i64 f.pc, .slice sa1 FL sc1] 30)) := by rw [← unhide hZ, ← unhide hF1]; exact heap_alloc_new w3 _
  have HV1 : Hid (Rx Zw 2 (.slice sa1 FL sc1) f.sl.length (flt enI f.sl)) := by rw [← unhide hZ]; exact (Rx.of_ro hg3.1).below ((Below.refl _ _).alloc (Nat.le_refl _) _) (Nat.le_refl _)
  rw [unhide hZ, unhide hF1]
  clear hg3 HR1 HC
  have HF1n := hide (unhide HF1)
  have HV1n := hide (unhide HV1)
  have HUn := hide ((unhide HU).below hbZ)
  have HFINn : Hid (∀ Y, Below Zw.heap.size Zw Y → Below X0.heap.size X0 Y) := fun Y hbY => unhide HFIN Y (hbZ.trans (hbY.mono hbZ.size))
  clear HU HFIN g0 g1 g2 g3 lP lQ hbZ
  (try clear HF1)
  (try clear HV1)
  obtain ⟨X, hXn⟩ : ∃ Z, Z = Zw := ⟨_, rfl⟩
  subst hXn
  have HU := HUn
  clear HUn
  have HFIN := HFINn
  clear HFINn
  have HF1 := HF1n
  clear HF1n
  have HV1 := HV1n
  clear HV1n
  obtain ⟨g0, g1, g2, g3⟩ := (unhide HU).cells
  obtain ⟨lP, lQ⟩ := (unhide HU).ltt
  have HD : Hid (Below X.heap.size X X.drew) := below_drw (Below.refl _ X)
  have HE := hide (fun (Y : World) (hb : Below X.heap.size X Y) => unhide HEN Y (.agg #[.slice (some ⟨cg, co, none⟩) NC ccap, .slice (some ⟨fg, fo, none⟩) NF fcap]) (.slice la an lc) (by have := ((unhide HU).below hb).lt.pgv; rw [unhide hNC, unhide hNF] at this; exact this) (by
    have h1 := ((unhide HU).below hb).lv
    rw [unhide hln] at h1
    have h2 := Rx.upto h1 (k := an) (c := lc) hanl (by omega) (by unfold maxLen; omega)
    rw [flt_take zI, show (args ++ mkV 64).take an = args by rw [← unhide han]; exact List.take_left] at h2
    rw [unhide han]
    exact h2))
  have HSP := hide (fun (Y : World) (hb : Below X.heap.size X Y) => (have q := ((unhide HU).below hb).cells; (⟨q.2.2.1, q.2.2.2⟩ : Y.cell? ⟨Q, 0, none⟩ = some (.slice (some ⟨cg, co, none⟩) NC ccap) ∧ Y.cell? ⟨Q, 1, none⟩ = some (.slice (some ⟨fg, fo, none⟩) NF fcap))))
  have al0 : (0 : Int) ≤ (an : Int) := by omega
  have al1 : (an : Int) ≤ (lc : Int) := by omega
  go_wp2_with fail
  go_cut [11, 12] from 15 (fun tq tb wc => ∃ (q : Nat) (sa : Option Addr) (sc : Nat), tq = .pointer (some ⟨q, 0, none⟩) ∧ tb = .bool ob ∧ Hid (Below X.heap.size X wc ∧ wc.heap[q]? = some (.cells #[.int .i64 f.fn, .int .i64 f.pc, .slice sa FL sc] 30) ∧ Ro wc 2 (.slice sa FL sc) f.sl.length (flt enI f.sl) ∧ (∀ b, (Value.slice sa FL sc).ownBlock = some b → X.heap.size ≤ b ∧ b ≠ q) ∧ X.heap.size ≤ q))
  case first =>
   as_aux_lemma =>
    go_region_held3 (fun w' => w'.cell? ⟨Q, 0, none⟩ = some (.slice (some ⟨cg, co, none⟩) NC ccap) ∧ w'.cell? ⟨Q, 1, none⟩ = some (.slice (some ⟨fg, fo, none⟩) NF fcap)) (first | go_keep | exact hS4 | exact unhide HSP _ (rel_store hb4 hqx hq4 hg4.1 (fun b hb => by have h1 := hg4.2.2 b hb; (try simp at h1); omega) _ _).1 | exact unhide HSP _ (hb4.alloc hb4.size _))
      (first
       | (go_at_call 12; (first | refine (unhide HE _ (unhide HD)).mono ?_ | refine (unhide HE _ ((unhide HD).alloc (Nat.le_refl _) _)).mono ?_); rintro e w4 ⟨sa, sc, rfl, hg4, hsc1, hsc2⟩; have hb4 : Below X.heap.size X w4 := (by first | exact (unhide HD).trans hg4.2.1 | exact ((unhide HD).alloc (Nat.le_refl _) _).trans (hg4.2.1.mono (by simp))); have hS4 : w4.cell? ⟨Q, 0, none⟩ = some (.slice (some ⟨cg, co, none⟩) NC ccap) ∧ w4.cell? ⟨Q, 1, none⟩ = some (.slice (some ⟨fg, fo, none⟩) NF fcap) := unhide HSP w4 hb4; (first | (have hq4 : w4.heap[X.heap.size]? = some (.cells #[.int .i64 0, .int .i64 0, .slice none 0 0] 30) := (hg4.2.1.block _ (by simp)).trans (heap_alloc_new X.drew _); have hqx : X.heap.size ≤ X.heap.size := Nat.le_refl _; obtain ⟨cq, fq, lq⟩ := blk_cells hq4; have cq0 := cq 0; have cq1 := cq 1; have cq2 := cq 2; have fq0 := fq 0; have fq1 := fq 1; have fq2 := fq 2; clear cq fq) | skip)))
    all_goals (have HG4 := hide hg4; go_wp2_with fail; go_meet; case rel => first | (exact ⟨_, _, _, rfl, rfl, (rel_store hb4 hqx hq4 hg4.1 (fun b hb => by have h1 := hg4.2.2 b hb; (try simp at h1); omega) _ _).1, (rel_store hb4 hqx hq4 hg4.1 (fun b hb => by have h1 := hg4.2.2 b hb; (try simp at h1); omega) _ _).2.1, hg4.1.fr (fr_three w4 X.heap.size _ _ _) (fun b hb e => by have h1 := hg4.2.2 b hb; (try simp at h1); omega), (fun b hb => by have h1 := hg4.2.2 b hb; (try simp at h1); exact ⟨by omega, by omega⟩), Nat.le_refl _⟩) | (exact ⟨_, _, _, rfl, rfl, hb4.alloc hb4.size _, heap_alloc_new _ _, hg4.1.fr ((Fr.refl (fun _ => False) _).alloc _) (fun _ _ e => e), (fun b hb => ⟨hg4.2.2 b hb, Nat.ne_of_lt (hg4.1.lt b hb)⟩), hb4.size⟩))
  case rest =>
   obtain ⟨F2, sa2, sc2, rfl, rfl, hcF⟩ := hcut
   have HF2 := hide (unhide hcF).2.1
   have HV2 := hide (unhide hcF).2.2.1
   have HO2 := hide (unhide hcF).2.2.2.1
   have HQ2 := hide (unhide hcF).2.2.2.2
   have HB2 : Hid (∀ b, (Value.slice sa2 FL sc2).ownBlock = some b → X0.heap.size ≤ b) := fun b hb => Nat.le_trans (unhide HFIN X (Below.refl _ _)).size (unhide HO2 b hb).1
   have HF1n := hide (blkT (unhide HF1) (unhide hcF).1)
   have HV1n := hide ((unhide HV1).below (unhide hcF).1 (Nat.le_refl _))
   have HF2n := hide (unhide HF2)
   have HV2n := hide (unhide HV2)
   have HUn := hide ((unhide HU).below (unhide hcF).1)
   have HFINn : Hid (∀ Y, Below wc.heap.size wc Y → Below X0.heap.size X0 Y) := fun Y hbY => unhide HFIN Y ((unhide hcF).1.trans (hbY.mono (unhide hcF).1.size))
   clear HU HFIN g0 g1 g2 g3 lP lQ hcF HE HSP HD al0 al1 HO2 HQ2
   (try clear HF1)
   (try clear HV1)
   (try clear HF2)
   (try clear HV2)
   obtain ⟨X, hXn⟩ : ∃ Z, Z = wc := ⟨_, rfl⟩
   subst hXn
   have HU := HUn
   clear HUn
   have HFIN := HFINn
   clear HFINn
   have HF1 := HF1n
   clear HF1n
   have HV1 := HV1n
   clear HV1n
   have HF2 := HF2n
   clear HF2n
   have HV2 := HV2n
   clear HV2n
   obtain ⟨g0, g1, g2, g3⟩ := (unhide HU).cells
   obtain ⟨lP, lQ⟩ := (unhide HU).ltt
   have HD : Hid (Below X.heap.size X X.drew) := below_drw (Below.refl _ X)
   have HE := hide (fun (Y : World) (hb : Below X.heap.size X Y) => unhide HEN Y (.agg #[.slice (some ⟨cg, co, none⟩) NC ccap, .slice (some ⟨fg, fo, none⟩) NF fcap]) (.slice la an lc) (by have := ((unhide HU).below hb).lt.pgv; rw [unhide hNC, unhide hNF] at this; exact this) (by
     have h1 := ((unhide HU).below hb).lv
     rw [unhide hln] at h1
     have h2 := Rx.upto h1 (k := an) (c := lc) hanl (by omega) (by unfold maxLen; omega)
     rw [flt_take zI, show (args ++ mkV 64).take an = args by rw [← unhide han]; exact List.take_left] at h2
     rw [unhide han]
     exact h2))
   have HSP := hide (fun (Y : World) (hb : Below X.heap.size X Y) => (have q := ((unhide HU).below hb).cells; (⟨q.2.2.1, q.2.2.2⟩ : Y.cell? ⟨Q, 0, none⟩ = some (.slice (some ⟨cg, co, none⟩) NC ccap) ∧ Y.cell? ⟨Q, 1, none⟩ = some (.slice (some ⟨fg, fo, none⟩) NF fcap))))
   have al0 : (0 : Int) ≤ (an : Int) := by omega
   have al1 : (an : Int) ≤ (lc : Int) := by omega
   go_wp2_with fail
   go_cut [13, 14] from 15 (fun tq tb wc => ∃ (q : Nat) (sa : Option Addr) (sc : Nat), tq = .pointer (some ⟨q, 0, none⟩) ∧ tb = .bool ob ∧ Hid (Below X.heap.size X wc ∧ wc.heap[q]? = some (.cells #[.int .i64 f.fn, .int .i64 f.pc, .slice sa FL sc] 30) ∧ Ro wc 2 (.slice sa FL sc) f.sl.length (flt enI f.sl) ∧ (∀ b, (Value.slice sa FL sc).ownBlock = some b → X.heap.size ≤ b ∧ b ≠ q) ∧ X.heap.size ≤ q))
   case first =>
    as_aux_lemma =>
     go_region_held3 (fun w' => w'.cell? ⟨Q, 0, none⟩ = some (.slice (some ⟨cg, co, none⟩) NC ccap) ∧ w'.cell? ⟨Q, 1, none⟩ = some (.slice (some ⟨fg, fo, none⟩) NF fcap)) (first | go_keep | exact hS4 | exact unhide HSP _ (rel_store hb4 hqx hq4 hg4.1 (fun b hb => by have h1 := hg4.2.2 b hb; (try simp at h1); omega) _ _).1 | exact unhide HSP _ (hb4.alloc hb4.size _))
       (first
        | (go_at_call 12; (first | refine (unhide HE _ (unhide HD)).mono ?_ | refine (unhide HE _ ((unhide HD).alloc (Nat.le_refl _) _)).mono ?_); rintro e w4 ⟨sa, sc, rfl, hg4, hsc1, hsc2⟩; have hb4 : Below X.heap.size X w4 := (by first | exact (unhide HD).trans hg4.2.1 | exact ((unhide HD).alloc (Nat.le_refl _) _).trans (hg4.2.1.mono (by simp))); have hS4 : w4.cell? ⟨Q, 0, none⟩ = some (.slice (some ⟨cg, co, none⟩) NC ccap) ∧ w4.cell? ⟨Q, 1, none⟩ = some (.slice (some ⟨fg, fo, none⟩) NF fcap) := unhide HSP w4 hb4; (first | (have hq4 : w4.heap[X.heap.size]? = some (.cells #[.int .i64 0, .int .i64 0, .slice none 0 0] 30) := (hg4.2.1.block _ (by simp)).trans (heap_alloc_new X.drew _); have hqx : X.heap.size ≤ X.heap.size := Nat.le_refl _; obtain ⟨cq, fq, lq⟩ := blk_cells hq4; have cq0 := cq 0; have cq1 := cq 1; have cq2 := cq 2; have fq0 := fq 0; have fq1 := fq 1; have fq2 := fq 2; clear cq fq) | skip)))
     all_goals (have HG4 := hide hg4; go_wp2_with fail; go_meet; case rel => first | (exact ⟨_, _, _, rfl, rfl, (rel_store hb4 hqx hq4 hg4.1 (fun b hb => by have h1 := hg4.2.2 b hb; (try simp at h1); omega) _ _).1, (rel_store hb4 hqx hq4 hg4.1 (fun b hb => by have h1 := hg4.2.2 b hb; (try simp at h1); omega) _ _).2.1, hg4.1.fr (fr_three w4 X.heap.size _ _ _) (fun b hb e => by have h1 := hg4.2.2 b hb; (try simp at h1); omega), (fun b hb => by have h1 := hg4.2.2 b hb; (try simp at h1); exact ⟨by omega, by omega⟩), Nat.le_refl _⟩) | (exact ⟨_, _, _, rfl, rfl, hb4.alloc hb4.size _, heap_alloc_new _ _, hg4.1.fr ((Fr.refl (fun _ => False) _).alloc _) (fun _ _ e => e), (fun b hb => ⟨hg4.2.2 b hb, Nat.ne_of_lt (hg4.1.lt b hb)⟩), hb4.size⟩))
   case rest =>
    obtain ⟨F3, sa3, sc3, rfl, rfl, hcF⟩ := hcut
    have HF3 := hide (unhide hcF).2.1
    have HV3 := hide (unhide hcF).2.2.1
    have HO3 := hide (unhide hcF).2.2.2.1
    have HQ3 := hide (unhide hcF).2.2.2.2
    have HB3 : Hid (∀ b, (Value.slice sa3 FL sc3).ownBlock = some b → X0.heap.size ≤ b) := fun b hb => Nat.le_trans (unhide HFIN X (Below.refl _ _)).size (unhide HO3 b hb).1
    have HF1n := hide (blkT (unhide HF1) (unhide hcF).1)
    have HV1n := hide ((unhide HV1).below (unhide hcF).1 (Nat.le_refl _))
    have HF2n := hide (blkT (unhide HF2) (unhide hcF).1)
    have HV2n := hide ((unhide HV2).keep (fun g hg => (unhide hcF).1.block g ((unhide HV2).lt g hg)))
    have HF3n := hide (unhide HF3)
    have HV3n := hide (unhide HV3)
    have HAPn := hide ((fun b (h2 : (Value.slice sa2 FL sc2).ownBlock = some b) (h3 : (Value.slice sa3 FL sc3).ownBlock = some b) => (by have := (unhide HO3 b h3).1; have := (unhide HV2).lt b h2; omega : False)))
    have HUn := hide ((unhide HU).below (unhide hcF).1)
    have HFINn : Hid (∀ Y, Below wc.heap.size wc Y → Below X0.heap.size X0 Y) := fun Y hbY => unhide HFIN Y ((unhide hcF).1.trans (hbY.mono (unhide hcF).1.size))
    clear HU HFIN g0 g1 g2 g3 lP lQ hcF HE HSP HD al0 al1 HO3 HQ3
    (try clear HF1)
    (try clear HV1)
    (try clear HF2)
    (try clear HV2)
    (try clear HF3)
    (try clear HV3)
    (try clear HAP)
    obtain ⟨X, hXn⟩ : ∃ Z, Z = wc := ⟨_, rfl⟩
    subst hXn
    have HU := HUn
    clear HUn
    have HFIN := HFINn
    clear HFINn
    have HF1 := HF1n
    clear HF1n
    have HV1 := HV1n
    clear HV1n
    have HF2 := HF2n
    clear HF2n
    have HV2 := HV2n
    clear HV2n
    have HF3 := HF3n
    clear HF3n
    have HV3 := HV3n
    clear HV3n
    have HAP := HAPn
    clear HAPn
    obtain ⟨g0, g1, g2, g3⟩ := (unhide HU).cells
    obtain ⟨lP, lQ⟩ := (unhide HU).ltt
    obtain ⟨c1, _, l1⟩ := blk_cells (unhide HF1)
    obtain ⟨c2, _, l2⟩ := blk_cells (unhide HF2)
    obtain ⟨c3, _, l3⟩ := blk_cells (unhide HF3)
    have c10 := c1 0
    have c11 := c1 1
    have c12 := c1 2
    have c20 := c2 0
    have c21 := c2 1
    have c22 := c2 2
    have c30 := c3 0
    have c31 := c3 1
    have c32 := c3 2
    clear c1 c2 c3
    have HFM : Hid (∀ Y, Below X.heap.size X Y → FmA Y (.agg #[.int .i64 f.fn, .int .i64 f.pc, .slice sa1 FL sc1]) f ∧ FmA Y (.agg #[.int .i64 f.fn, .int .i64 f.pc, .slice sa2 FL sc2]) f ∧ FmA Y (.agg #[.int .i64 f.fn, .int .i64 f.pc, .slice sa3 FL sc3]) f) := fun Y hb => ⟨⟨_, rfl, (unhide HV1).below hb (Nat.le_refl _)⟩, ⟨_, rfl, (Rx.of_ro (unhide HV2)).below hb (Nat.le_refl _)⟩, ⟨_, rfl, (Rx.of_ro (unhide HV3)).below hb (Nat.le_refl _)⟩⟩
    have HFL' : Hid (f.sl.length ≤ 1048576) := by have := unhide HFL; have := unhide hFL; unfold Hid; omega
    have hbe := bool_neqE
    have HC1 := hide (sameM_any (unhide HFM X (Below.refl _ _)).2.1 (unhide HFM X (Below.refl _ _)).1 (unhide HFL'))
    go_wp2_with fail
    refine (unhide HC1).mono ?_
    rintro e w6 ⟨rfl, hb6⟩
    have HB6 := hide hb6
    have m10 := (hb6.cell (p := ⟨F1, 0, none⟩) l1).trans c10
    have m11 := (hb6.cell (p := ⟨F1, 1, none⟩) l1).trans c11
    have m12 := (hb6.cell (p := ⟨F1, 2, none⟩) l1).trans c12
    have m30 := (hb6.cell (p := ⟨F3, 0, none⟩) l3).trans c30
    have m31 := (hb6.cell (p := ⟨F3, 1, none⟩) l3).trans c31
    have m32 := (hb6.cell (p := ⟨F3, 2, none⟩) l3).trans c32
    have HC2 := hide (sameM_any (unhide HFM w6 hb6).2.2 (unhide HFM w6 hb6).1 (unhide HFL'))
    clear hb6 HC1
    go_wp2_with fail
    refine (unhide HC2).mono ?_
    rintro e w7 ⟨rfl, hb7⟩
    have hb7X : Below X.heap.size X w7 := (unhide HB6).trans (hb7.mono (unhide HB6).size)
    clear m10 m11 m12 m30 m31 m32 c10 c11 c12 c20 c21 c22 c30 c31 c32 l1 l2 l3 hb7 HC2 HB6 HFM
    have HF2n := hide (blkT (unhide HF2) hb7X)
    have HV2n := hide ((unhide HV2).keep (fun g hg => hb7X.block g ((unhide HV2).lt g hg)))
    have HF3n := hide (blkT (unhide HF3) hb7X)
    have HV3n := hide ((unhide HV3).keep (fun g hg => hb7X.block g ((unhide HV3).lt g hg)))
    have HUn := hide ((unhide HU).below hb7X)
    have HFINn : Hid (∀ Y, Below w7.heap.size w7 Y → Below X0.heap.size X0 Y) := fun Y hbY => unhide HFIN Y (hb7X.trans (hbY.mono hb7X.size))
    clear HU HFIN g0 g1 g2 g3 lP lQ hb7X HF1 HV1
    (try clear HF2)
    (try clear HV2)
    (try clear HF3)
    (try clear HV3)
    obtain ⟨X, hXn⟩ : ∃ Z, Z = w7 := ⟨_, rfl⟩
    subst hXn
    have HU := HUn
    clear HUn
    have HFIN := HFINn
    clear HFINn
    have HF2 := HF2n
    clear HF2n
    have HV2 := HV2n
    clear HV2n
    have HF3 := HF3n
    clear HF3n
    have HV3 := HV3n
    clear HV3n
    obtain ⟨g0, g1, g2, g3⟩ := (unhide HU).cells
    obtain ⟨lP, lQ⟩ := (unhide HU).ltt
    have HK14 := hide (fun (Y : World) (hb : Below X.heap.size X Y) => (have h1 := keptP_any ((unhide HU).below hb).lt ((unhide HU).below hb).pg hN hC (unhide HBD); (by rw [unhide hNC, unhide hNF] at h1; exact h1 : Calls Try.prog 14 #[.agg #[.slice (some ⟨cg, co, none⟩) NC ccap, .slice (some ⟨fg, fo, none⟩) NF fcap], .agg #[.slice paa pan pac, .slice pba pbn pbc]] Y fun e w' => e = .returned (.bool true) ∧ Below Y.heap.size Y w')))
    have HK15 := hide (fun (Y : World) (hb : Below X.heap.size X Y) => keptV_any ((unhide HU).below hb).lv ((unhide HU).below hb).ar (by have := unhide HAN; omega))
    have HK := hide (unhide HK14 X (Below.refl _ _))
    go_wp2_with fail
    refine (unhide HK).mono ?_
    rintro e w8 ⟨rfl, hb8⟩
    have HB8 := hide hb8
    have HK2 := hide (unhide HK15 w8 hb8)
    clear hb8 HK HK14
    go_wp2_with fail
    refine (unhide HK2).mono ?_
    rintro e w9 ⟨rfl, hb9⟩
    have hb9X : Below X.heap.size X w9 := (unhide HB8).trans (hb9.mono (unhide HB8).size)
    clear hb9 HK2 HB8 HK15
    have HF2n := hide (blkT (unhide HF2) hb9X)
    have HV2n := hide ((unhide HV2).keep (fun g hg => hb9X.block g ((unhide HV2).lt g hg)))
    have HF3n := hide (blkT (unhide HF3) hb9X)
    have HV3n := hide ((unhide HV3).keep (fun g hg => hb9X.block g ((unhide HV3).lt g hg)))
    have HUn := hide ((unhide HU).below hb9X)
    have HFINn : Hid (∀ Y, Below w9.heap.size w9 Y → Below X0.heap.size X0 Y) := fun Y hbY => unhide HFIN Y (hb9X.trans (hbY.mono hb9X.size))
    clear HU HFIN g0 g1 g2 g3 lP lQ hb9X
    (try clear HF2)
    (try clear HV2)
    (try clear HF3)
    (try clear HV3)
    obtain ⟨X, hXn⟩ : ∃ Z, Z = w9 := ⟨_, rfl⟩
    subst hXn
    have HU := HUn
    clear HUn
    have HFIN := HFINn
    clear HFINn
    have HF2 := HF2n
    clear HF2n
    have HV2 := HV2n
    clear HV2n
    have HF3 := HF3n
    clear HF3n
    have HV3 := HV3n
    clear HV3n
    obtain ⟨g0, g1, g2, g3⟩ := (unhide HU).cells
    obtain ⟨lP, lQ⟩ := (unhide HU).ltt
    obtain ⟨c2, _, l2⟩ := blk_cells (unhide HF2)
    obtain ⟨c3, _, l3⟩ := blk_cells (unhide HF3)
    have c22 := c2 2
    have c32 := c3 2
    clear c2 c3
    have HV2a := hide (unhide HV2)
    have HAS : Hid (∀ O : Obj, O = .cells #[.slice sa2 FL sc2, .slice sa3 FL sc3] 26 → AS 2 (X.alloc O) X.heap.size 0 (fun k => if k = 0 then .slice sa2 FL sc2 else .slice sa3 FL sc3) (fun _ => FL)) := fun O hO => by
      subst hO
      refine ⟨fun k hk => ?_, fun k hk => ⟨f.sl, unhide hFL, ?_⟩, fun k b hk e => ?_, fun j j' b hj hj' hn e q => ?_, fun _ => unhide HFL, by decide⟩
      · have h1 := (blk_cells (heap_alloc_new X (.cells #[.slice sa2 FL sc2, .slice sa3 FL sc3] 26))).1
        match k, hk with
        | 0, _ => exact h1 0
        | 1, _ => exact h1 1
      · match k, hk with
        | 0, _ => have := (unhide HV2).fr ((Fr.refl (fun _ => False) X).alloc (.cells #[.slice sa2 FL sc2, .slice sa3 FL sc3] 26)) (fun _ _ e => e); rw [unhide hFL] at this; exact this
        | 1, _ => have := (unhide HV3).fr ((Fr.refl (fun _ => False) X).alloc (.cells #[.slice sa2 FL sc2, .slice sa3 FL sc3] 26)) (fun _ _ e => e); rw [unhide hFL] at this; exact this
      · match k, hk with
        | 0, _ => exact Nat.ne_of_lt ((unhide HV2).lt b e)
        | 1, _ => exact Nat.ne_of_lt ((unhide HV3).lt b e)
      · match j, j', hj, hj' with
        | 0, 0, _, _ => exact hn rfl
        | 0, 1, _, _ => exact unhide HAP b e q
        | 1, 0, _, _ => exact unhide HAP b q e
        | 1, 1, _, _ => exact hn rfl
    have HC16 := hide (fun O hO => apartV 2 (X.alloc O) X.heap.size 0 2 _ _ (unhide HAS O hO))
    clear HV2a
    go_wp2_with fail
    refine (unhide HC16 _ rfl).mono ?_
    rintro e w10 ⟨rfl, hfr⟩
    have hx0 : Below X0.heap.size X0 X := unhide HFIN X (Below.refl _ _)
    have hb10 : Below X0.heap.size X0 w10 := (hx0.alloc hx0.size _).trans (hfr.below (by have := hx0.size; simp; omega) (fun b hb ⟨j, hj, e⟩ => by
      match j, hj with
      | 0, _ => have := unhide HB2 b e; omega
      | 1, _ => have := unhide HB3 b e; omega))
    have HK15 := hide (keptV_any ((unhide HU0).below hb10).lv ((unhide HU0).below hb10).ar (by have := unhide HAN; omega))
    have HB10 := hide hb10
    clear hfr hx0 hb10 HC16 HAS c22 c32 g0 g1 g2 g3 lP lQ l2 l3 HU HFIN
    go_wp2_with fail
    refine (unhide HK15).mono ?_
    rintro e w11 ⟨rfl, hb11⟩
    have HE : Hid (Below w.heap.size w w11) := ((unhide HXW).trans ((unhide HB10).mono (unhide HXW).size)).trans (hb11.mono (by have := (unhide HXW).size; have := (unhide HB10).size; omega))
    clear hb11 HK15
    go_wp2_with fail
    go_ret
    exact ⟨rfl, unhide HE⟩
end Go.Proofs.Ytfcgpafjhifogaa
