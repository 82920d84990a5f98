/-
  FramesRound: its law.
-/
import Derived.Test.YtfcgpafjhifogabUnw
namespace Go.Proofs.Ytfcgpafjhifogab
open Go.RowKit
set_option linter.unusedVariables false
set_option linter.unusedSimpArgs false
theorem enter_none {w : World} {pv av : Value} {p : Pg} {args : List (Int × Int)} {fn : Int} (ho : enF' p fn args = none) (h : PgV w pv p) (ha : Rx w 2 av args.length (flt enI args)) (hN : p.funcs.length ≤ 1048576) (hA : args.length ≤ 1048576) :
    Calls Try.prog 5 #[pv, .int .i64 fn, av] w fun e w' => ∃ sa sc, e = .returned (.tuple #[.agg #[.int .i64 0, .int .i64 0, .slice sa 0 sc], .bool false]) ∧ Gx w 2 enI [] (.slice sa 0 sc) w' := by
  have := enter_any fn h ha hN hA
  rw [ho] at this
  refine this.mono ?_
  rintro e w' ⟨sv, rfl, hg⟩
  obtain ⟨sa, sc, e, _⟩ := hg.1.shape
  subst e
  exact ⟨sa, sc, rfl, hg⟩
theorem enter_some {w : World} {pv av : Value} {p : Pg} {args : List (Int × Int)} {fn : Int} {f : Fm} (ho : enF' p fn args = some f) (h : PgV w pv p) (ha : Rx w 2 av args.length (flt enI args)) (hN : p.funcs.length ≤ 1048576) (hA : args.length ≤ 1048576) :
    Calls Try.prog 5 #[pv, .int .i64 fn, av] w fun e w' => ∃ sa sc, e = .returned (.tuple #[.agg #[.int .i64 f.fn, .int .i64 f.pc, .slice sa f.sl.length sc], .bool true]) ∧ Gx w 2 enI f.sl (.slice sa f.sl.length sc) w' := by
  have := enter_any fn h ha hN hA
  rw [ho] at this
  refine this.mono ?_
  rintro e w' ⟨sv, rfl, hg⟩
  obtain ⟨sa, sc, e, _⟩ := hg.1.shape
  subst e
  exact ⟨sa, sc, rfl, hg⟩
theorem return_none {w : World} {pv lv : Value} {fs : List Fm} {x : Int × Int} (ho : rt fs x = none) (hp : ∃ a b, pv = .agg #[a, b]) (hl : FsV w lv fs) (hL : fs.length ≤ 1048576) (hS : ∀ f ∈ fs, f.sl.length ≤ 1048576) :
    Calls Try.prog 9 #[pv, lv, .agg #[.int .i64 x.1, .int .i64 x.2]] w fun e w' => ∃ a c, e = .returned (.tuple #[.slice a 0 c, .bool false]) ∧ Below w.heap.size w w' := by
  have := return_any x hp hl hL hS
  rw [ho] at this
  refine this.mono ?_
  rintro e w' ⟨v, xs, rfl, hof, hb⟩
  obtain ⟨sa, sc, e, _⟩ := hof.row.shape
  subst e
  exact ⟨sa, sc, rfl, hb⟩
theorem return_some {w : World} {pv lv : Value} {fs gs : List Fm} {x : Int × Int} (ho : rt fs x = some gs) (hp : ∃ a b, pv = .agg #[a, b]) (hl : FsV w lv fs) (hL : fs.length ≤ 1048576) (hS : ∀ f ∈ fs, f.sl.length ≤ 1048576) :
    Calls Try.prog 9 #[pv, lv, .agg #[.int .i64 x.1, .int .i64 x.2]] w fun e w' => ∃ a c, e = .returned (.tuple #[.slice a gs.length c, .bool true]) ∧ FsV w' (.slice a gs.length c) gs ∧ Below w.heap.size w w' := by
  have := return_any x hp hl hL hS
  rw [ho] at this
  refine this.mono ?_
  rintro e w' ⟨v, xs, rfl, hof, hb⟩
  obtain ⟨sa, sc, e, _⟩ := hof.row.shape
  subst e
  exact ⟨sa, sc, rfl, hof.fsv, hb⟩
/-- append of one value, in a region that draws. -/
theorem step_appW {w : World} {ops : Array Oper} {o : Oper} {a : Act} {K : Act → World → Prop} {Q : Exit → Act → World → Prop} {E : Prop} (hw : Region.wanted o (yielded ops a.tmps) = true) (s x : Operand)
    (ho : o.op = .call { callee := .builtin .append, args := #[s, x], argTypes := #[27, 27] }) (v u : Value) (hs : a.eval s = v) (hx : a.eval x = u) (n : Nat) (l : List (Int × Int)) (p : Int × Int)
    (hr : Ro w 2 v n (flt enI l)) (hu : Rx w 2 u 1 (flt enI [p])) (hN : n ≤ 3000000)
    (h : ∀ v' w', Ro w' 2 v' (n + 1) (flt enI l ++ enI p) → w.grownBy w' v.ownBlock → (v'.ownBlock = v.ownBlock ∨ v'.ownBlock = some w.heap.size) → K (a.put o.dst v') w') :
    if Region.wanted o (yielded ops a.tmps) = true then Oper.wp Try.prog o a w K Q else E := by
  rw [flt_one] at hu
  obtain ⟨v', w', hrun, h2, h3, h4⟩ := Ro.appX 27 o.type 29 _ Try.underlying27 Try.info29 rfl (by omega) hr hu (by intro u hu; simp only [enI, List.mem_cons, List.not_mem_nil, or_false] at hu; rcases hu with rfl | rfl <;> rfl) (by unfold maxLen; omega) (by omega)
  rw [if_pos hw]
  unfold Oper.wp
  simp [execOp, ho, resolve, invoke, builtin, hs, hx, hrun, Result.andThen]
  exact h v' w' h2 h3 h4
/-- What stays while the law goes on. -/
structure RoI (P T : Nat) (paa : Option Addr) (pan pac : Nat) (pba : Option Addr) (pbn pbc : Nat) (a : Option Addr) (N cap : Nat) (aa : Option Addr) (an ac : Nat) (p : Pg) (fs : List Fm) (fn : Int) (args : List (Int × Int)) (x : Int × Int) (X : World) : Prop where
  bp : X.heap[P]? = some (.cells #[.slice paa pan pac, .slice pba pbn pbc] 25)
  bt : X.heap[T]? = some (.cells #[.int .i64 fn, .slice aa an ac, .int .i64 x.1, .int .i64 x.2] 31)
  pg : PgV X (.agg #[.slice paa pan pac, .slice pba pbn pbc]) p
  fl : FsV X (.slice a N cap) fs
  ar : Rx X 2 (.slice aa an ac) args.length (flt enI args)
section
variable {P T : Nat} {paa : Option Addr} {pan pac : Nat} {pba : Option Addr} {pbn pbc : Nat} {a : Option Addr} {N cap : Nat} {aa : Option Addr} {an ac : Nat} {p : Pg} {fs : List Fm} {fn : Int} {args : List (Int × Int)} {x : Int × Int} {X Y : World}
theorem RoI.below (h : RoI P T paa pan pac pba pbn pbc a N cap aa an ac p fs fn args x X) (hb : Below X.heap.size X Y) : RoI P T paa pan pac pba pbn pbc a N cap aa an ac p fs fn args x Y :=
  ⟨blkT h.bp hb, blkT h.bt hb, h.pg.below hb (Nat.le_refl _), h.fl.below hb (Nat.le_refl _), h.ar.below hb (Nat.le_refl _)⟩
theorem RoI.cells (h : RoI P T paa pan pac pba pbn pbc a N cap aa an ac p fs fn args x X) :
    X.cell? ⟨P, 0, none⟩ = some (.slice paa pan pac) ∧ X.cell? ⟨P, 1, none⟩ = some (.slice pba pbn pbc) ∧ X.cell? ⟨T, 0, none⟩ = some (.int .i64 fn) ∧ X.cell? ⟨T, 1, none⟩ = some (.slice aa an ac) ∧ X.cell? ⟨T, 2, none⟩ = some (.int .i64 x.1) ∧ X.cell? ⟨T, 3, none⟩ = some (.int .i64 x.2) :=
  ⟨(blk_cells h.bp).1 0, (blk_cells h.bp).1 1, (blk_cells h.bt).1 0, (blk_cells h.bt).1 1, (blk_cells h.bt).1 2, (blk_cells h.bt).1 3⟩
theorem RoI.lt (h : RoI P T paa pan pac pba pbn pbc a N cap aa an ac p fs fn args x X) : P < X.heap.size ∧ T < X.heap.size := ⟨(blk_cells h.bp).2.2, (blk_cells h.bt).2.2⟩
end
set_option maxRecDepth 100000 in
set_option maxHeartbeats 6400000 in
theorem roundLaw {w : World} {pv lv av : Value} {p : Pg} {fs : List Fm} {args : List (Int × Int)} (fn : Int) (x : Int × Int) (h : PgV w pv p) (hl : FsV w lv fs) (ha : Rx w 2 av args.length (flt enI args)) (hN : p.funcs.length ≤ 1048576) (hL : fs.length < 1048576) (hS : ∀ g ∈ fs, g.sl.length < 1048576) (hA : args.length < 1048576) :
    Calls Try.prog 3 #[pv, lv, .agg #[.int .i64 fn, av, .int .i64 x.1, .int .i64 x.2]] w fun e w' => e = .returned (.bool true) ∧ Below w.heap.size w w' := by
  obtain ⟨pa, pb, rfl⟩ : ∃ a b, pv = .agg #[a, b] := by obtain ⟨a, b, e, _⟩ := h; exact ⟨a, b, e⟩
  obtain ⟨paa, pan, pac, epa⟩ : ∃ a n c, pa = .slice a n c := by
    obtain ⟨_, _, e, ⟨_, a, c, e2, _⟩, _⟩ := h
    cases e; exact ⟨a, _, c, e2⟩
  obtain ⟨pba, pbn, pbc, epb⟩ : ∃ a n c, pb = .slice a n c := by
    obtain ⟨_, _, e, _, hfs⟩ := h
    obtain ⟨a, c, e2, _⟩ := hfs.at
    cases e; exact ⟨a, _, c, e2⟩
  subst epa epb
  obtain ⟨a, cap, rfl, hlc, hcm⟩ := hl.shape
  obtain ⟨aa, ac, rfl, hac, hacm⟩ : ∃ a c, av = .slice a args.length c ∧ args.length ≤ c ∧ c ≤ maxLen := by obtain ⟨_, a, c, e, h1, h2, _⟩ := ha; exact ⟨a, c, e, h1, h2⟩
  have HP := hide h
  have HS := hide hS
  obtain ⟨N, hNN⟩ : ∃ N, Hid (fs.length = N) := ⟨_, hide rfl⟩
  obtain ⟨an, han⟩ : ∃ N, Hid (args.length = N) := ⟨_, hide rfl⟩
  have HL' : Hid (FsV w (.slice a N cap) fs) := by rw [← unhide hNN]; exact hl
  have HA' : Hid (Rx w 2 (.slice aa an ac) args.length (flt enI args)) := by rw [← unhide han]; exact ha
  rw [unhide hNN] at hL hlc ⊢
  rw [unhide han] at hA hac ⊢
  clear h hl hS ha
  have HfN : Hid (fs.length ≤ 1048576) := by have := unhide hNN; unfold Hid; omega
  have HAN : Hid (args.length ≤ 1048576) := by have := unhide han; unfold Hid; omega
  have HSW := hide shown_any
  go_enter Try.func3, Try.ntmps3
  go_wp2_with fail
  refine (unhide HSW _).mono ?_
  rintro e X ⟨rfl, hb1⟩
  obtain ⟨W0, hW0⟩ : ∃ W0, Hid (((w.alloc (.cells #[.slice paa pan pac, .slice pba pbn pbc] 25)).alloc (.cells #[.int .i64 fn, .slice aa an ac, .int .i64 x.1, .int .i64 x.2] 31)) = W0) := ⟨_, hide rfl⟩
  have hb1' : Below W0.heap.size W0 X := by rw [← unhide hW0]; exact hb1
  obtain ⟨k1, k2⟩ := blk2 w (.cells #[.slice paa pan pac, .slice pba pbn pbc] 25) (.cells #[.int .i64 fn, .slice aa an ac, .int .i64 x.1, .int .i64 x.2] 31)
  rw [unhide hW0] at k1 k2
  have hb0 : Below w.heap.size w W0 := by rw [← unhide hW0]; exact Below.alloc2 w _ _
  have HXB : Hid (Below w.heap.size w X) := hb0.trans (hb1'.mono hb0.size)
  obtain ⟨P, hP⟩ : ∃ P, Hid (w.heap.size = P) := ⟨_, hide rfl⟩
  obtain ⟨T, hT⟩ : ∃ T, Hid (w.heap.size + 1 = T) := ⟨_, hide rfl⟩
  have HU : Hid (RoI P T paa pan pac pba pbn pbc a N cap aa an ac p fs fn args x X) := by
    rw [← unhide hP, ← unhide hT]
    exact ⟨blkT k1 hb1', blkT k2 hb1', (unhide HP).below (unhide HXB) (Nat.le_refl _), (unhide HL').below (unhide HXB) (Nat.le_refl _), (unhide HA').below (unhide HXB) (Nat.le_refl _)⟩
  rw [unhide hT, unhide hP]
  clear HP HL' HA' hb1 hb1' k1 k2 hb0 hW0 HSW
  have HFIN : Hid (∀ Y, Below X.heap.size X Y → Below w.heap.size w Y) := fun Y hb => (unhide HXB).trans (hb.mono (unhide HXB).size)
  have HC6 := hide (fun (Y : World) (hb : Below X.heap.size X Y) => copyV_any ((unhide HU).below hb).ar (by have := unhide HAN; omega))
  have HC8 := hide (fun (Y : World) (hb : Below X.heap.size X Y) => copyMs_any ((unhide HU).below hb).fl (unhide HfN) (fun g hg => Nat.le_of_lt (unhide HS g hg)))
  have HSP := hide (fun (Y : World) (hb : Below X.heap.size X Y) => ((unhide HU).below hb).cells)
  have HD : Hid (Below X.heap.size X X.drew) := below_drw (Below.refl _ X)
  obtain ⟨g0, g1, g2, g3, g4, g5⟩ := (unhide HU).cells
  obtain ⟨lP, lT⟩ := (unhide HU).lt
  cases o1 : enF' p fn args with
  | none =>
    as_aux_lemma =>
      have HE := hide (fun (Y : World) (v : Value) (hb : Below X.heap.size X Y) (hx : Rx Y 2 v args.length (flt enI args)) => (enter_none (pv := .agg #[.slice paa pan pac, .slice pba pbn pbc]) o1 ((unhide HU).below hb).pg hx hN (unhide HAN)).mono (R' := fun e w' => ∃ sa sc, e = .returned (.tuple #[.agg #[.int .i64 0, .int .i64 0, .slice sa 0 sc], .bool false]) ∧ Gx Y 2 enI [] (.slice sa 0 sc) w' ∧ 0 ≤ sc ∧ sc ≤ maxLen) (fun e w' ⟨sa, sc, e1, hg⟩ => ⟨sa, sc, e1, hg, Nat.zero_le _, by obtain ⟨_, _, e, _, h⟩ := hg.1.shape; cases e; exact h⟩))
      go_wp2_with fail
      go_cut [7, 8] from 16 (fun tq tb wc => ∃ (q : Nat) (sa : Option Addr) (sc : Nat), tq = .pointer (some ⟨q, 0, none⟩) ∧ tb = .bool false ∧ Hid (Below X.heap.size X wc ∧ wc.heap[q]? = some (.cells #[.int .i64 0, .int .i64 0, .slice sa 0 sc] 34) ∧ Rx wc 2 (.slice sa 0 sc) 0 (flt enI ([] : List (Int × Int))) ∧ 0 ≤ sc ∧ sc ≤ maxLen))
      case first =>
        as_aux_lemma =>
          go_region_held3 (fun w' => w'.cell? ⟨P, 0, none⟩ = some (.slice paa pan pac) ∧ w'.cell? ⟨P, 1, none⟩ = some (.slice pba pbn pbc) ∧ w'.cell? ⟨T, 0, none⟩ = some (.int .i64 fn) ∧ w'.cell? ⟨T, 1, none⟩ = some (.slice aa an ac) ∧ w'.cell? ⟨T, 2, none⟩ = some (.int .i64 x.1) ∧ w'.cell? ⟨T, 3, none⟩ = some (.int .i64 x.2)) (first | go_keep | exact hS4 | exact hS3 | exact unhide HSP _ (rel_store hb4 hqx hq4 hg4.1 (fun b hb => by have h1 := hg4.2.2 b hb; (try simp at h1); omega) _ _).1 | exact unhide HSP _ (hb4.alloc hb4.size _))
            (first
             | (go_at_call 6; (first | refine (unhide HC6 _ (unhide HD)).mono ?_ | refine (unhide HC6 _ ((unhide HD).alloc (Nat.le_refl _) _)).mono ?_); rintro e w3 ⟨v3, rfl, hg3⟩; obtain ⟨a3, c3, ev3, _⟩ := hg3.1.shape; subst ev3; have hb3 : Below X.heap.size X w3 := (by first | exact (unhide HD).trans hg3.2.1 | exact ((unhide HD).alloc (Nat.le_refl _) _).trans (hg3.2.1.mono (by simp))); have hS3 : w3.cell? ⟨P, 0, none⟩ = some (.slice paa pan pac) ∧ w3.cell? ⟨P, 1, none⟩ = some (.slice pba pbn pbc) ∧ w3.cell? ⟨T, 0, none⟩ = some (.int .i64 fn) ∧ w3.cell? ⟨T, 1, none⟩ = some (.slice aa an ac) ∧ w3.cell? ⟨T, 2, none⟩ = some (.int .i64 x.1) ∧ w3.cell? ⟨T, 3, none⟩ = some (.int .i64 x.2) := unhide HSP w3 hb3)
             | (go_at_call 5; (first | refine (unhide HE _ _ hb3 (Rx.of_ro hg3.1)).mono ?_ | refine (unhide HE _ _ (hb3.alloc hb3.size _) ((Rx.of_ro hg3.1).below ((Below.refl _ _).alloc (Nat.le_refl _) _) (Nat.le_refl _))).mono ?_); rintro e w4 ⟨sa, sc, rfl, hg4, hsc1, hsc2⟩; have hb4 : Below X.heap.size X w4 := (by first | exact hb3.trans (hg4.2.1.mono hb3.size) | exact (hb3.alloc hb3.size _).trans (hg4.2.1.mono (by have := hb3.size; simp; omega))); have hS4 : w4.cell? ⟨P, 0, none⟩ = some (.slice paa pan pac) ∧ w4.cell? ⟨P, 1, none⟩ = some (.slice pba pbn pbc) ∧ w4.cell? ⟨T, 0, none⟩ = some (.int .i64 fn) ∧ w4.cell? ⟨T, 1, none⟩ = some (.slice aa an ac) ∧ w4.cell? ⟨T, 2, none⟩ = some (.int .i64 x.1) ∧ w4.cell? ⟨T, 3, none⟩ = some (.int .i64 x.2) := unhide HSP w4 hb4; (first | (have hq4 : w4.heap[X.heap.size]? = some (.cells #[.int .i64 0, .int .i64 0, .slice none 0 0] 34) := (hg4.2.1.block _ (by have := hg3.2.1.size; simp at this; omega)).trans ((hg3.2.1.block _ (by simp)).trans (heap_alloc_new X.drew _)); have hql : X.heap.size < w3.heap.size := (by have := hg3.2.1.size; simp at this; omega); have hqx : X.heap.size ≤ X.heap.size := Nat.le_refl _; obtain ⟨cq, fq, lq⟩ := blk_cells hq4; have cq0 := cq 0; have cq1 := cq 1; have cq2 := cq 2; have fq0 := fq 0; have fq1 := fq 1; have fq2 := fq 2; clear cq fq) | (have hq4 : w4.heap[w3.heap.size]? = some (.cells #[.int .i64 0, .int .i64 0, .slice none 0 0] 34) := (hg4.2.1.block _ (by simp)).trans (heap_alloc_new w3 _); have hql : w3.heap.size < w3.heap.size + 1 := Nat.lt_succ_self _; have hqx : X.heap.size ≤ w3.heap.size := hb3.size; obtain ⟨cq, fq, lq⟩ := blk_cells hq4; have cq0 := cq 0; have cq1 := cq 1; have cq2 := cq 2; have fq0 := fq 0; have fq1 := fq 1; have fq2 := fq 2; clear cq fq) | skip)))
          all_goals (go_wp2_with fail; go_meet; case rel => first | exact ⟨_, _, _, rfl, rfl, (rel_store hb4 hqx hq4 hg4.1 (fun b hb => by have h1 := hg4.2.2 b hb; (try simp at h1); omega) _ _).1, (rel_store hb4 hqx hq4 hg4.1 (fun b hb => by have h1 := hg4.2.2 b hb; (try simp at h1); omega) _ _).2.1, (rel_store hb4 hqx hq4 hg4.1 (fun b hb => by have h1 := hg4.2.2 b hb; (try simp at h1); omega) _ _).2.2, hsc1, hsc2⟩ | exact ⟨_, _, _, rfl, rfl, hb4.alloc hb4.size _, heap_alloc_new _ _, (Rx.of_ro hg4.1).below ((Below.refl _ _).alloc (Nat.le_refl _) _) (Nat.le_refl _), hsc1, hsc2⟩)
      case rest =>
        obtain ⟨q2, sa2, sc2, rfl, rfl, hF2⟩ := hcut
        have HUn := hide ((unhide HU).below (unhide hF2).1)
        have HFINn : Hid (∀ Y, Below wc.heap.size wc Y → Below w.heap.size w Y) := fun Y hbY => unhide HFIN Y ((unhide hF2).1.trans (hbY.mono (unhide hF2).1.size))
        clear HU HFIN HSP HD HC6 HC8 g0 g1 g2 g3 g4 g5 lP lT hF2 HE
        obtain ⟨X, hXn⟩ : ∃ Z, Z = wc := ⟨_, rfl⟩
        subst hXn
        have HU := HUn
        clear HUn
        have HFIN := HFINn
        clear HFINn
        have HC6 := hide (fun (Y : World) (hb : Below X.heap.size X Y) => copyV_any ((unhide HU).below hb).ar (by have := unhide HAN; omega))
        have HC8 := hide (fun (Y : World) (hb : Below X.heap.size X Y) => copyMs_any ((unhide HU).below hb).fl (unhide HfN) (fun g hg => Nat.le_of_lt (unhide HS g hg)))
        have HSP := hide (fun (Y : World) (hb : Below X.heap.size X Y) => ((unhide HU).below hb).cells)
        have HD : Hid (Below X.heap.size X X.drew) := below_drw (Below.refl _ X)
        obtain ⟨g0, g1, g2, g3, g4, g5⟩ := (unhide HU).cells
        obtain ⟨lP, lT⟩ := (unhide HU).lt
        have HE := hide (fun (Y : World) (v : Value) (hb : Below X.heap.size X Y) (hx : Rx Y 2 v args.length (flt enI args)) => (enter_none (pv := .agg #[.slice paa pan pac, .slice pba pbn pbc]) o1 ((unhide HU).below hb).pg hx hN (unhide HAN)).mono (R' := fun e w' => ∃ sa sc, e = .returned (.tuple #[.agg #[.int .i64 0, .int .i64 0, .slice sa 0 sc], .bool false]) ∧ Gx Y 2 enI [] (.slice sa 0 sc) w' ∧ 0 ≤ sc ∧ sc ≤ maxLen) (fun e w' ⟨sa, sc, e1, hg⟩ => ⟨sa, sc, e1, hg, Nat.zero_le _, by obtain ⟨_, _, e, _, h⟩ := hg.1.shape; cases e; exact h⟩))
        go_wp2_with fail
        go_cut [9, 10] from 16 (fun tq tb wc => ∃ (q : Nat) (sa : Option Addr) (sc : Nat), tq = .pointer (some ⟨q, 0, none⟩) ∧ tb = .bool false ∧ Hid (Below X.heap.size X wc ∧ wc.heap[q]? = some (.cells #[.int .i64 0, .int .i64 0, .slice sa 0 sc] 34) ∧ Rx wc 2 (.slice sa 0 sc) 0 (flt enI ([] : List (Int × Int))) ∧ 0 ≤ sc ∧ sc ≤ maxLen))
        case first =>
          as_aux_lemma =>
            go_region_held3 (fun w' => w'.cell? ⟨P, 0, none⟩ = some (.slice paa pan pac) ∧ w'.cell? ⟨P, 1, none⟩ = some (.slice pba pbn pbc) ∧ w'.cell? ⟨T, 0, none⟩ = some (.int .i64 fn) ∧ w'.cell? ⟨T, 1, none⟩ = some (.slice aa an ac) ∧ w'.cell? ⟨T, 2, none⟩ = some (.int .i64 x.1) ∧ w'.cell? ⟨T, 3, none⟩ = some (.int .i64 x.2)) (first | go_keep | exact hS4 | exact hS3 | exact unhide HSP _ (rel_store hb4 hqx hq4 hg4.1 (fun b hb => by have h1 := hg4.2.2 b hb; (try simp at h1); omega) _ _).1 | exact unhide HSP _ (hb4.alloc hb4.size _))
              (first
               | (go_at_call 6; (first | refine (unhide HC6 _ (unhide HD)).mono ?_ | refine (unhide HC6 _ ((unhide HD).alloc (Nat.le_refl _) _)).mono ?_); rintro e w3 ⟨v3, rfl, hg3⟩; obtain ⟨a3, c3, ev3, _⟩ := hg3.1.shape; subst ev3; have hb3 : Below X.heap.size X w3 := (by first | exact (unhide HD).trans hg3.2.1 | exact ((unhide HD).alloc (Nat.le_refl _) _).trans (hg3.2.1.mono (by simp))); have hS3 : w3.cell? ⟨P, 0, none⟩ = some (.slice paa pan pac) ∧ w3.cell? ⟨P, 1, none⟩ = some (.slice pba pbn pbc) ∧ w3.cell? ⟨T, 0, none⟩ = some (.int .i64 fn) ∧ w3.cell? ⟨T, 1, none⟩ = some (.slice aa an ac) ∧ w3.cell? ⟨T, 2, none⟩ = some (.int .i64 x.1) ∧ w3.cell? ⟨T, 3, none⟩ = some (.int .i64 x.2) := unhide HSP w3 hb3)
               | (go_at_call 5; (first | refine (unhide HE _ _ hb3 (Rx.of_ro hg3.1)).mono ?_ | refine (unhide HE _ _ (hb3.alloc hb3.size _) ((Rx.of_ro hg3.1).below ((Below.refl _ _).alloc (Nat.le_refl _) _) (Nat.le_refl _))).mono ?_); rintro e w4 ⟨sa, sc, rfl, hg4, hsc1, hsc2⟩; have hb4 : Below X.heap.size X w4 := (by first | exact hb3.trans (hg4.2.1.mono hb3.size) | exact (hb3.alloc hb3.size _).trans (hg4.2.1.mono (by have := hb3.size; simp; omega))); have hS4 : w4.cell? ⟨P, 0, none⟩ = some (.slice paa pan pac) ∧ w4.cell? ⟨P, 1, none⟩ = some (.slice pba pbn pbc) ∧ w4.cell? ⟨T, 0, none⟩ = some (.int .i64 fn) ∧ w4.cell? ⟨T, 1, none⟩ = some (.slice aa an ac) ∧ w4.cell? ⟨T, 2, none⟩ = some (.int .i64 x.1) ∧ w4.cell? ⟨T, 3, none⟩ = some (.int .i64 x.2) := unhide HSP w4 hb4; (first | (have hq4 : w4.heap[X.heap.size]? = some (.cells #[.int .i64 0, .int .i64 0, .slice none 0 0] 34) := (hg4.2.1.block _ (by have := hg3.2.1.size; simp at this; omega)).trans ((hg3.2.1.block _ (by simp)).trans (heap_alloc_new X.drew _)); have hql : X.heap.size < w3.heap.size := (by have := hg3.2.1.size; simp at this; omega); have hqx : X.heap.size ≤ X.heap.size := Nat.le_refl _; obtain ⟨cq, fq, lq⟩ := blk_cells hq4; have cq0 := cq 0; have cq1 := cq 1; have cq2 := cq 2; have fq0 := fq 0; have fq1 := fq 1; have fq2 := fq 2; clear cq fq) | (have hq4 : w4.heap[w3.heap.size]? = some (.cells #[.int .i64 0, .int .i64 0, .slice none 0 0] 34) := (hg4.2.1.block _ (by simp)).trans (heap_alloc_new w3 _); have hql : w3.heap.size < w3.heap.size + 1 := Nat.lt_succ_self _; have hqx : X.heap.size ≤ w3.heap.size := hb3.size; obtain ⟨cq, fq, lq⟩ := blk_cells hq4; have cq0 := cq 0; have cq1 := cq 1; have cq2 := cq 2; have fq0 := fq 0; have fq1 := fq 1; have fq2 := fq 2; clear cq fq) | skip)))
            all_goals (go_wp2_with fail; go_meet; case rel => first | exact ⟨_, _, _, rfl, rfl, (rel_store hb4 hqx hq4 hg4.1 (fun b hb => by have h1 := hg4.2.2 b hb; (try simp at h1); omega) _ _).1, (rel_store hb4 hqx hq4 hg4.1 (fun b hb => by have h1 := hg4.2.2 b hb; (try simp at h1); omega) _ _).2.1, (rel_store hb4 hqx hq4 hg4.1 (fun b hb => by have h1 := hg4.2.2 b hb; (try simp at h1); omega) _ _).2.2, hsc1, hsc2⟩ | exact ⟨_, _, _, rfl, rfl, hb4.alloc hb4.size _, heap_alloc_new _ _, (Rx.of_ro hg4.1).below ((Below.refl _ _).alloc (Nat.le_refl _) _) (Nat.le_refl _), hsc1, hsc2⟩)
        case rest =>
          obtain ⟨q3, sa3, sc3, rfl, rfl, hF3⟩ := hcut
          have HFE := hide (unhide HFIN _ (unhide hF3).1)
          go_wp2_with fail
          go_ret
          exact ⟨rfl, unhide HFE⟩
  | some f =>
    as_aux_lemma =>
      obtain ⟨FL, hFL⟩ : ∃ L, Hid (f.sl.length = L) := ⟨_, hide rfl⟩
      obtain ⟨gg, hgg, hfa, hfb, hfc, hfe⟩ : ∃ g, fnAt p fn = some g ∧ (args.length : Int) = g.params ∧ g.params ≤ g.locals ∧ g.locals ≤ 64 ∧ f = ⟨fn, 0, args ++ List.replicate (g.locals.toNat - args.length) (0, 0)⟩ := by
        unfold enF' enG at o1
        split at o1
        · cases o1
        · rename_i g hg
          split at o1
          · rename_i q
            cases o1
            exact ⟨g, hg, q.1, q.2.1, q.2.2, rfl⟩
          · cases o1
      obtain ⟨fn0, fnl, hfat⟩ := fnAt_some hgg
      obtain ⟨fnn, hfnn⟩ : ∃ n, Hid (fn.toNat = n) := ⟨_, hide rfl⟩
      rw [unhide hfnn] at hfat
      have hfi : fn = (fnn : Int) := by have := unhide hfnn; omega
      have hFLl : (FL : Int) = gg.locals := by rw [← unhide hFL, hfe]; simp; omega
      have hanp : (an : Int) = gg.params := by rw [← unhide han]; exact hfa
      have hanF : an ≤ FL := by omega
      have hFL64 : FL ≤ 64 := by omega
      have HTK : Hid (f.sl.take an = args) := by rw [hfe, ← unhide han]; exact List.take_left
      have HSf : Hid (f.sl.length < 1048576) := by have := unhide hFL; unfold Hid; omega
      have HLOC := hide hFLl
      have HPAR := hide hanp
      have HFNL : Hid ((fnn : Int) < p.funcs.length) := by rw [← hfi]; exact fnl
      have HFAT := hide hfat
      clear hfe hgg hfa hfb hfc hFLl hanp fn0 fnl hfat
      subst hfi
      clear hfnn
      have HE := hide (fun (Y : World) (v : Value) (hb : Below X.heap.size X Y) (hx : Rx Y 2 v args.length (flt enI args)) => (enter_some (fn := (fnn : Int)) (pv := .agg #[.slice paa pan pac, .slice pba pbn pbc]) o1 ((unhide HU).below hb).pg hx hN (unhide HAN)).mono (R' := fun e w' => ∃ sa sc, e = .returned (.tuple #[.agg #[.int .i64 f.fn, .int .i64 f.pc, .slice sa FL sc], .bool true]) ∧ Gx Y 2 enI f.sl (.slice sa FL sc) w' ∧ FL ≤ sc ∧ sc ≤ maxLen) (fun e w' ⟨sa, sc, e1, hg⟩ => ⟨sa, sc, by rw [e1, unhide hFL], by rw [← unhide hFL]; exact hg, by obtain ⟨_, _, e, h0, h⟩ := hg.1.shape; cases e; rw [← unhide hFL]; exact h0, by obtain ⟨_, _, e, _, h⟩ := hg.1.shape; cases e; exact h⟩))
      clear o1
      go_wp2_with fail
      go_cut [7, 8] from 16 (fun tq tb wc => ∃ (q : Nat) (sa : Option Addr) (sc : Nat), tq = .pointer (some ⟨q, 0, none⟩) ∧ tb = .bool true ∧ Hid (Below X.heap.size X wc ∧ wc.heap[q]? = some (.cells #[.int .i64 f.fn, .int .i64 f.pc, .slice sa FL sc] 34) ∧ Rx wc 2 (.slice sa FL sc) f.sl.length (flt enI f.sl) ∧ FL ≤ sc ∧ sc ≤ maxLen))
      case first =>
        as_aux_lemma =>
          go_region_held3 (fun w' => w'.cell? ⟨P, 0, none⟩ = some (.slice paa pan pac) ∧ w'.cell? ⟨P, 1, none⟩ = some (.slice pba pbn pbc) ∧ w'.cell? ⟨T, 0, none⟩ = some (.int .i64 (fnn : Int)) ∧ w'.cell? ⟨T, 1, none⟩ = some (.slice aa an ac) ∧ w'.cell? ⟨T, 2, none⟩ = some (.int .i64 x.1) ∧ w'.cell? ⟨T, 3, none⟩ = some (.int .i64 x.2)) (first | go_keep | exact hS4 | exact hS3 | exact unhide HSP _ (rel_store hb4 hqx hq4 hg4.1 (fun b hb => by have h1 := hg4.2.2 b hb; (try simp at h1); omega) _ _).1 | exact unhide HSP _ (hb4.alloc hb4.size _))
            (first
             | (go_at_call 6; (first | refine (unhide HC6 _ (unhide HD)).mono ?_ | refine (unhide HC6 _ ((unhide HD).alloc (Nat.le_refl _) _)).mono ?_); rintro e w3 ⟨v3, rfl, hg3⟩; obtain ⟨a3, c3, ev3, _⟩ := hg3.1.shape; subst ev3; have hb3 : Below X.heap.size X w3 := (by first | exact (unhide HD).trans hg3.2.1 | exact ((unhide HD).alloc (Nat.le_refl _) _).trans (hg3.2.1.mono (by simp))); have hS3 : w3.cell? ⟨P, 0, none⟩ = some (.slice paa pan pac) ∧ w3.cell? ⟨P, 1, none⟩ = some (.slice pba pbn pbc) ∧ w3.cell? ⟨T, 0, none⟩ = some (.int .i64 (fnn : Int)) ∧ w3.cell? ⟨T, 1, none⟩ = some (.slice aa an ac) ∧ w3.cell? ⟨T, 2, none⟩ = some (.int .i64 x.1) ∧ w3.cell? ⟨T, 3, none⟩ = some (.int .i64 x.2) := unhide HSP w3 hb3)
             | (go_at_call 5; (first | refine (unhide HE _ _ hb3 (Rx.of_ro hg3.1)).mono ?_ | refine (unhide HE _ _ (hb3.alloc hb3.size _) ((Rx.of_ro hg3.1).below ((Below.refl _ _).alloc (Nat.le_refl _) _) (Nat.le_refl _))).mono ?_); rintro e w4 ⟨sa, sc, rfl, hg4, hsc1, hsc2⟩; have hb4 : Below X.heap.size X w4 := (by first | exact hb3.trans (hg4.2.1.mono hb3.size) | exact (hb3.alloc hb3.size _).trans (hg4.2.1.mono (by have := hb3.size; simp; omega))); have hS4 : w4.cell? ⟨P, 0, none⟩ = some (.slice paa pan pac) ∧ w4.cell? ⟨P, 1, none⟩ = some (.slice pba pbn pbc) ∧ w4.cell? ⟨T, 0, none⟩ = some (.int .i64 (fnn : Int)) ∧ w4.cell? ⟨T, 1, none⟩ = some (.slice aa an ac) ∧ w4.cell? ⟨T, 2, none⟩ = some (.int .i64 x.1) ∧ w4.cell? ⟨T, 3, none⟩ = some (.int .i64 x.2) := unhide HSP w4 hb4; (first | (have hq4 : w4.heap[X.heap.size]? = some (.cells #[.int .i64 0, .int .i64 0, .slice none 0 0] 34) := (hg4.2.1.block _ (by have := hg3.2.1.size; simp at this; omega)).trans ((hg3.2.1.block _ (by simp)).trans (heap_alloc_new X.drew _)); have hql : X.heap.size < w3.heap.size := (by have := hg3.2.1.size; simp at this; omega); have hqx : X.heap.size ≤ X.heap.size := Nat.le_refl _; obtain ⟨cq, fq, lq⟩ := blk_cells hq4; have cq0 := cq 0; have cq1 := cq 1; have cq2 := cq 2; have fq0 := fq 0; have fq1 := fq 1; have fq2 := fq 2; clear cq fq) | (have hq4 : w4.heap[w3.heap.size]? = some (.cells #[.int .i64 0, .int .i64 0, .slice none 0 0] 34) := (hg4.2.1.block _ (by simp)).trans (heap_alloc_new w3 _); have hql : w3.heap.size < w3.heap.size + 1 := Nat.lt_succ_self _; have hqx : X.heap.size ≤ w3.heap.size := hb3.size; obtain ⟨cq, fq, lq⟩ := blk_cells hq4; have cq0 := cq 0; have cq1 := cq 1; have cq2 := cq 2; have fq0 := fq 0; have fq1 := fq 1; have fq2 := fq 2; clear cq fq) | skip)))
          all_goals (go_wp2_with fail; go_meet; case rel => first | exact ⟨_, _, _, rfl, rfl, (rel_store hb4 hqx hq4 hg4.1 (fun b hb => by have h1 := hg4.2.2 b hb; (try simp at h1); omega) _ _).1, (rel_store hb4 hqx hq4 hg4.1 (fun b hb => by have h1 := hg4.2.2 b hb; (try simp at h1); omega) _ _).2.1, (rel_store hb4 hqx hq4 hg4.1 (fun b hb => by have h1 := hg4.2.2 b hb; (try simp at h1); omega) _ _).2.2, hsc1, hsc2⟩ | exact ⟨_, _, _, rfl, rfl, hb4.alloc hb4.size _, heap_alloc_new _ _, (Rx.of_ro hg4.1).below ((Below.refl _ _).alloc (Nat.le_refl _) _) (Nat.le_refl _), hsc1, hsc2⟩)
      case rest =>
        obtain ⟨q2, sa2, sc2, rfl, rfl, hF2⟩ := hcut
        have HQ := hide ((unhide hF2).2.1)
        have HQR := hide ((unhide hF2).2.2.1)
        have hsc1 := (unhide hF2).2.2.2.1
        have hsc2 := (unhide hF2).2.2.2.2
        have HQn := hide (unhide HQ)
        have HQRn := hide (unhide HQR)
        have HUn := hide ((unhide HU).below (unhide hF2).1)
        have HFINn : Hid (∀ Y, Below wc.heap.size wc Y → Below w.heap.size w Y) := fun Y hbY => unhide HFIN Y ((unhide hF2).1.trans (hbY.mono (unhide hF2).1.size))
        clear HU HFIN HSP HD HC6 HC8 g0 g1 g2 g3 g4 g5 lP lT hF2 HE
        (try clear HQ)
        (try clear HQR)
        obtain ⟨X, hXn⟩ : ∃ Z, Z = wc := ⟨_, rfl⟩
        subst hXn
        have HU := HUn
        clear HUn
        have HFIN := HFINn
        clear HFINn
        have HQ := HQn
        clear HQn
        have HQR := HQRn
        clear HQRn
        have HC6 := hide (fun (Y : World) (hb : Below X.heap.size X Y) => copyV_any ((unhide HU).below hb).ar (by have := unhide HAN; omega))
        have HC8 := hide (fun (Y : World) (hb : Below X.heap.size X Y) => copyMs_any ((unhide HU).below hb).fl (unhide HfN) (fun g hg => Nat.le_of_lt (unhide HS g hg)))
        have HSP := hide (fun (Y : World) (hb : Below X.heap.size X Y) => ((unhide HU).below hb).cells)
        have HD : Hid (Below X.heap.size X X.drew) := below_drw (Below.refl _ X)
        obtain ⟨g0, g1, g2, g3, g4, g5⟩ := (unhide HU).cells
        obtain ⟨lP, lT⟩ := (unhide HU).lt
        obtain ⟨bfu, off, fx, efb, lfu, hfx, hcx⟩ : ∃ b off x, pba = some ⟨b, off, none⟩ ∧ b < X.heap.size ∧ FnV X gg x ∧ ∀ (j : Nat) u, (enF x)[j]? = some u → X.cell? ⟨b, off + fnn * 5 + j, none⟩ = some u := by
          obtain ⟨_, _, e, _, hfs⟩ := (unhide HU).pg
          obtain ⟨_, _, e2, _, _, hat⟩ := hfs.at
          cases e
          obtain ⟨b, off, x, e3, h1, h2, h3⟩ := hat _ _ (unhide HFAT)
          cases e2
          exact ⟨b, off, x, e3, h1, h2, h3⟩
        have hpbn : pbn = p.funcs.length := by
          obtain ⟨_, _, e, _, hfs⟩ := (unhide HU).pg
          obtain ⟨_, _, e2, _⟩ := hfs.at
          cases e; cases e2; rfl
        have e1 := hcx 1 _ rfl
        have e2 := hcx 2 _ rfl
        rw [hfx.2.1, ← unhide HPAR] at e1
        rw [hfx.2.2.1, ← unhide HLOC] at e2
        subst efb
        have fb0 : (0 : Int) ≤ (fnn : Int) := by omega
        have fb1 : (fnn : Int) < (pbn : Int) := by have := unhide HFNL; omega
        have hfx0 : decide ((fnn : Int) < 0) = false := decide_eq_false (by omega)
        have fbN : fnn < pbn := by omega
        have fbD : decide (pbn ≤ fnn) = false := decide_eq_false (by omega)
        have fbE : decide ((pbn : Int) ≤ (fnn : Int)) = false := decide_eq_false (by omega)
        have fbG : decide (FL < an) = false := decide_eq_false (by omega)
        have fbH : decide ((FL : Int) < (an : Int)) = false := decide_eq_false (by omega)
        clear hpbn
        obtain ⟨c1, c2, c3⟩ := blk_cells (unhide HQ)
        have c12 := c1 2
        have hac1 : (an : Int) ≤ (sc2 : Int) := by omega
        have hac0 : (0 : Int) ≤ (an : Int) := by omega
        unfold maxLen at hsc2 hcm hacm
        have HSPQ : Hid (∀ Y, Below X.heap.size X Y → Y.cell? ⟨q2, 2, none⟩ = some (.slice sa2 FL sc2) ∧ Y.cell? ⟨bfu, off + fnn * 5 + 1, none⟩ = some (.int .i64 (an : Int)) ∧ Y.cell? ⟨bfu, off + fnn * 5 + 2, none⟩ = some (.int .i64 (FL : Int))) := (have h1 := hide c12; have h2 := hide e1; have h3 := hide e2; fun Y hb => ⟨(hb.cell (p := ⟨q2, 2, none⟩) c3).trans (unhide h1), (hb.cell (p := ⟨bfu, _, none⟩) lfu).trans (unhide h2), (hb.cell (p := ⟨bfu, _, none⟩) lfu).trans (unhide h3)⟩)
        have HC7 := hide (fun (Y : World) (hb : Below X.heap.size X Y) => sameV_any (w := Y) (av := .slice sa2 an sc2) (bv := .slice aa an ac) (l := args) (by
          have h0 := (unhide HQR).below hb (Nat.le_refl _)
          rw [unhide hFL] at h0
          have h1 := Rx.upto h0 (k := an) (c := sc2) hanF (by omega) (by unfold maxLen; omega)
          rw [flt_take zI, unhide HTK] at h1
          rw [unhide han]; exact h1) ((unhide HU).below hb).ar (by have := unhide HAN; omega))
        clear c1 c2 hcx hfx
        go_wp2_with fail
        go_region_held3 (fun w' => (w'.cell? ⟨P, 0, none⟩ = some (.slice paa pan pac) ∧ w'.cell? ⟨P, 1, none⟩ = some (.slice (some ⟨bfu, off, none⟩) pbn pbc) ∧ w'.cell? ⟨T, 0, none⟩ = some (.int .i64 (fnn : Int)) ∧ w'.cell? ⟨T, 1, none⟩ = some (.slice aa an ac) ∧ w'.cell? ⟨T, 2, none⟩ = some (.int .i64 x.1) ∧ w'.cell? ⟨T, 3, none⟩ = some (.int .i64 x.2)) ∧ w'.cell? ⟨q2, 2, none⟩ = some (.slice sa2 FL sc2) ∧ w'.cell? ⟨bfu, off + fnn * 5 + 1, none⟩ = some (.int .i64 (an : Int)) ∧ w'.cell? ⟨bfu, off + fnn * 5 + 2, none⟩ = some (.int .i64 (FL : Int))) (first | go_keep | exact ⟨hS7, hT7⟩)
          (first
           | (go_at_call 7; refine (unhide HC7 _ (unhide HD)).mono ?_; rintro e w7 ⟨rfl, hb7⟩; have hb7X : Below X.heap.size X w7 := (unhide HD).trans hb7; have hS7 := unhide HSP w7 hb7X; have hT7 := unhide HSPQ w7 hb7X))
        as_aux_lemma =>
          have HQn := hide (blkT (unhide HQ) hb7X)
          have HQRn := hide ((unhide HQR).below hb7X (Nat.le_refl _))
          have HUn := hide ((unhide HU).below hb7X)
          have HFINn : Hid (∀ Y, Below w7.heap.size w7 Y → Below w.heap.size w Y) := fun Y hbY => unhide HFIN Y (hb7X.trans (hbY.mono hb7X.size))
          clear HU HFIN HSP HD HC6 HC8 g0 g1 g2 g3 g4 g5 lP lT hb7 hb7X hS7 hT7 HC7 HSPQ c12 c3 e1 e2 lfu
          (try clear HQ)
          (try clear HQR)
          obtain ⟨X, hXn⟩ : ∃ Z, Z = w7 := ⟨_, rfl⟩
          subst hXn
          have HU := HUn
          clear HUn
          have HFIN := HFINn
          clear HFINn
          have HQ := HQn
          clear HQn
          have HQR := HQRn
          clear HQRn
          have HC6 := hide (fun (Y : World) (hb : Below X.heap.size X Y) => copyV_any ((unhide HU).below hb).ar (by have := unhide HAN; omega))
          have HC8 := hide (fun (Y : World) (hb : Below X.heap.size X Y) => copyMs_any ((unhide HU).below hb).fl (unhide HfN) (fun g hg => Nat.le_of_lt (unhide HS g hg)))
          have HSP := hide (fun (Y : World) (hb : Below X.heap.size X Y) => ((unhide HU).below hb).cells)
          have HD : Hid (Below X.heap.size X X.drew) := below_drw (Below.refl _ X)
          obtain ⟨g0, g1, g2, g3, g4, g5⟩ := (unhide HU).cells
          obtain ⟨lP, lT⟩ := (unhide HU).lt
          obtain ⟨c1, c2, c3⟩ := blk_cells (unhide HQ)
          have c10 := c1 0
          have c11 := c1 1
          have c12 := c1 2
          have HSPQ : Hid (∀ Y, Below X.heap.size X Y → Y.cell? ⟨q2, 0, none⟩ = some (.int .i64 f.fn) ∧ Y.cell? ⟨q2, 1, none⟩ = some (.int .i64 f.pc) ∧ Y.cell? ⟨q2, 2, none⟩ = some (.slice sa2 FL sc2)) := fun Y hb => ⟨(blk_cells (blkT (unhide HQ) hb)).1 0, (blk_cells (blkT (unhide HQ) hb)).1 1, (blk_cells (blkT (unhide HQ) hb)).1 2⟩
          clear c1 c2
          go_wp2_with fail
          go_cut [11] from 16 (fun t11 wc => ∃ v5 : Value, t11 = v5 ∧ Hid (Below X.heap.size X wc ∧ FsV wc v5 (fs ++ [f])))
          case first =>
           as_aux_lemma =>
            go_region_held3 (fun w' => w'.cell? ⟨q2, 0, none⟩ = some (.int .i64 f.fn) ∧ w'.cell? ⟨q2, 1, none⟩ = some (.int .i64 f.pc) ∧ w'.cell? ⟨q2, 2, none⟩ = some (.slice sa2 FL sc2)) (first | go_keep | exact hS5 | exact hS3)
              (first
               | (go_at_call 8; (first | refine (unhide HC8 _ (unhide HD)).mono ?_ | refine (unhide HC8 _ ((unhide HD).alloc (Nat.le_refl _) _)).mono ?_); rintro e w3 ⟨v3, xs3, rfl, ho3, hb3⟩; have hb3X : Below X.heap.size X w3 := (by first | exact (unhide HD).trans hb3 | exact ((unhide HD).alloc (Nat.le_refl _) _).trans (hb3.mono (by simp))); have hS3 := unhide HSPQ w3 hb3X; have hv3 : ∀ k, v3.ownBlock = some k → X.heap.size ≤ k := (fun k hk => by have h1 := ho3.rb k hk; (try simp at h1); omega))
               | ((first | refine step_appM (by rfl) _ _ rfl _ _ rfl rfl _ xs3 ⟨f.fn, f.pc, .slice sa2 FL sc2⟩ (ho3.row.fr ((Fr.refl (fun _ => False) _).alloc _) (fun _ _ e => e)) (rx_blk zM (heap_alloc_new _ _) [⟨f.fn, f.pc, .slice sa2 FL sc2⟩] rfl 1 rfl (by unfold maxLen; omega)) rfl (by have := unhide HfN; omega) ?_ | refine step_appM (by rfl) _ _ rfl _ _ rfl rfl _ xs3 ⟨f.fn, f.pc, .slice sa2 FL sc2⟩ ho3.row (rx_blk zM (blkT (heap_alloc_new _ _) hb3) [⟨f.fn, f.pc, .slice sa2 FL sc2⟩] rfl 1 rfl (by unfold maxLen; omega)) rfl (by have := unhide HfN; omega) ?_); intro v5 w5 hr5 hgr5 hat5; have hF5 : Fr (fun k => v3.ownBlock = some k) w3 w5 := (by first | exact ((Fr.refl _ w3).alloc _).grown hgr5 (fun k e => .inr e) | exact (Fr.refl _ w3).grown hgr5 (fun k e => .inr e)); have hb5X : Below X.heap.size X w5 := hb3X.trans (hF5.below hb3X.size (fun k hk e => by have := hv3 k e; omega)); have hS5 := unhide HSPQ w5 hb5X))
            all_goals (have HFS : Hid (FsV w5 v5 (fs ++ [f])) := ho3.pushV hr5 rfl hF5 ((unhide HQR).below hb5X (Nat.le_refl _)); go_wp2_with fail; go_meet; case rel => exact ⟨_, rfl, hb5X, unhide HFS⟩)
          case rest =>
            obtain ⟨v5, rfl, hF5⟩ := hcut
            have HFS := hide (unhide hF5).2
            have HFSn := hide (unhide HFS)
            have HUn := hide ((unhide HU).below (unhide hF5).1)
            have HFINn : Hid (∀ Y, Below wc.heap.size wc Y → Below w.heap.size w Y) := fun Y hbY => unhide HFIN Y ((unhide hF5).1.trans (hbY.mono (unhide hF5).1.size))
            clear HU HFIN HSP HD HC6 HC8 g0 g1 g2 g3 g4 g5 lP lT hF5 HSPQ c10 c11 c12 c3 HQ HQR
            (try clear HFS)
            obtain ⟨X, hXn⟩ : ∃ Z, Z = wc := ⟨_, rfl⟩
            subst hXn
            have HU := HUn
            clear HUn
            have HFIN := HFINn
            clear HFINn
            have HFS := HFSn
            clear HFSn
            have HC6 := hide (fun (Y : World) (hb : Below X.heap.size X Y) => copyV_any ((unhide HU).below hb).ar (by have := unhide HAN; omega))
            have HC8 := hide (fun (Y : World) (hb : Below X.heap.size X Y) => copyMs_any ((unhide HU).below hb).fl (unhide HfN) (fun g hg => Nat.le_of_lt (unhide HS g hg)))
            have HSP := hide (fun (Y : World) (hb : Below X.heap.size X Y) => ((unhide HU).below hb).cells)
            have HD : Hid (Below X.heap.size X X.drew) := below_drw (Below.refl _ X)
            obtain ⟨g0, g1, g2, g3, g4, g5⟩ := (unhide HU).cells
            obtain ⟨lP, lT⟩ := (unhide HU).lt
            as_aux_lemma =>
              have HA1 : Hid ((fs ++ [f]).length ≤ 1048576) := by have := unhide hNN; unfold Hid; simp; omega
              have HA2 : Hid (∀ g ∈ fs ++ [f], g.sl.length ≤ 1048576) := fun g hg => by
                rcases List.mem_append.1 hg with q | q
                · exact Nat.le_of_lt (unhide HS g q)
                · rw [List.mem_singleton] at q; subst q; exact Nat.le_of_lt (unhide HSf)
              by_cases hN0 : N = 0
              · have hr : rt (fs ++ [f]) x = none := by unfold rt; rw [if_pos (by rw [List.length_append, unhide hNN, hN0, List.length_singleton]; decide)]
                have HC := hide (return_none hr ⟨.slice paa pan pac, .slice (some ⟨bfu, off, none⟩) pbn pbc, rfl⟩ (unhide HFS) (unhide HA1) (unhide HA2))
                have HFIN0 := HFIN
                subst hN0
                clear hr
                go_wp2_with fail
                refine (unhide HC).mono ?_
                rintro e w9 ⟨a9, c9, rfl, hb9⟩
                have HE := hide (unhide HFIN _ hb9)
                clear hb9 HC
                go_wp2_with fail
                go_ret
                exact ⟨rfl, unhide HE⟩
              · obtain ⟨m, hm⟩ : ∃ m, N = m + 1 := ⟨N - 1, by omega⟩
                have hlm : fs.length = m + 1 := by rw [unhide hNN, hm]
                obtain ⟨g, hg⟩ : ∃ g, fs[m]? = some g := ⟨_, List.getElem?_eq_getElem (by omega)⟩
                obtain ⟨PC, hPC⟩ : ∃ PC, IntKind.i64.wrap (g.pc + 1) = PC := ⟨_, rfl⟩
                obtain ⟨G, hG⟩ : ∃ G : Fm, Hid ((⟨g.fn, PC, g.sl ++ [x]⟩ : Fm) = G) := ⟨_, hide rfl⟩
                have hr : rt (fs ++ [f]) x = some (fs.take m ++ [G]) := by
                  unfold rt
                  rw [List.length_append, List.length_singleton, hlm, if_neg (by omega), show m + 1 + 1 - 2 = m by omega, List.getElem?_append_left (by omega), hg]
                  simp only [hPC, unhide hG]
                  rw [List.take_append_of_le_length (by omega)]
                have hgl : (fs.take m ++ [G]).length = N := by simp; omega
                have HC := hide (return_some hr ⟨.slice paa pan pac, .slice (some ⟨bfu, off, none⟩) pbn pbc, rfl⟩ (unhide HFS) (unhide HA1) (unhide HA2))
                rw [hgl] at HC
                have HHG := hide hg
                clear hr hg hgl hN0
                go_wp2_with fail
                refine (unhide HC).mono ?_
                rintro e w9 ⟨a9, c9, rfl, hf9, hb9⟩
                have HOF := hide hf9
                have HOFn := hide (unhide HOF)
                have HUn := hide ((unhide HU).below hb9)
                have HFINn : Hid (∀ Y, Below w9.heap.size w9 Y → Below w.heap.size w Y) := fun Y hbY => unhide HFIN Y (hb9.trans (hbY.mono hb9.size))
                clear HU HFIN HSP HD HC6 HC8 g0 g1 g2 g3 g4 g5 lP lT hf9 hb9 HC HFS
                (try clear HOF)
                obtain ⟨X, hXn⟩ : ∃ Z, Z = w9 := ⟨_, rfl⟩
                subst hXn
                have HU := HUn
                clear HUn
                have HFIN := HFINn
                clear HFINn
                have HOF := HOFn
                clear HOFn
                have HC6 := hide (fun (Y : World) (hb : Below X.heap.size X Y) => copyV_any ((unhide HU).below hb).ar (by have := unhide HAN; omega))
                have HC8 := hide (fun (Y : World) (hb : Below X.heap.size X Y) => copyMs_any ((unhide HU).below hb).fl (unhide HfN) (fun g hg => Nat.le_of_lt (unhide HS g hg)))
                have HSP := hide (fun (Y : World) (hb : Below X.heap.size X Y) => ((unhide HU).below hb).cells)
                have HD : Hid (Below X.heap.size X X.drew) := below_drw (Below.refl _ X)
                obtain ⟨g0, g1, g2, g3, g4, g5⟩ := (unhide HU).cells
                obtain ⟨lP, lT⟩ := (unhide HU).lt
                as_aux_lemma =>
                  have hN0 : (((N : Nat) : Int) == 0) = false := by simp; omega
                  have hw1 : IntKind.i64.wrap ((N : Int) - 1) = (m : Int) := by rw [show (N : Int) - 1 = (m : Int) by omega]; go_arith
                  have hw2 : IntKind.i64.wrap ((m : Int) + 1) = (N : Int) := by rw [show (m : Int) + 1 = (N : Int) by omega]; go_arith
                  have h9c : N ≤ c9 ∧ c9 ≤ maxLen := by
                    obtain ⟨a', c', e, h1, h2⟩ := (unhide HOF).shape
                    have hh : (fs.take m ++ [G]).length = N := by simp; omega
                    rw [hh] at e h1
                    cases e
                    exact ⟨h1, h2⟩
                  obtain ⟨h9a, h9b⟩ := h9c
                  unfold maxLen at h9b
                  have m0 : (0 : Int) ≤ (m : Int) := by omega
                  have m1 : (m : Int) ≤ (c9 : Int) := by omega
                  have m3 : (m : Int) ≤ (cap : Int) := by omega
                  have m5 : (m : Int) < (N : Int) := by omega
                  have HTm1 : Hid ((fs.take m).length ≤ 1048576) := by unfold Hid; rw [List.length_take]; omega
                  have HTm2 : Hid (∀ g ∈ fs.take m, g.sl.length ≤ 1048576) := fun g hg => Nat.le_of_lt (unhide HS g (List.mem_of_mem_take hg))
                  have HT9 : Hid (FsV X (.slice a9 m c9) (fs.take m)) := by have := (unhide HOF).upto (k := m) (by simp; omega); rw [List.take_append_of_le_length (by rw [List.length_take]; omega), List.take_take, Nat.min_self] at this; exact this
                  have HTl : Hid (FsV X (.slice a m cap) (fs.take m)) := (unhide HU).fl.upto (k := m) (by omega)
                  have HC10 := hide (fun (Y : World) (hb : Below X.heap.size X Y) => sameMs_any ((unhide HT9).below hb (Nat.le_refl _)) ((unhide HTl).below hb (Nat.le_refl _)) (unhide HTm1) (unhide HTm2))
                  have HMN := hide hm
                  have HLM := hide hlm
                  clear hm hlm
                  go_wp2_with fail
                  go_region_held3 (fun _ => True) (trivial)
                    (first
                     | (go_at_call 10; refine (unhide HC10 _ (unhide HD)).mono ?_; rintro e w11 ⟨rfl, hb11⟩; have hb11X : Below X.heap.size X w11 := (unhide HD).trans hb11))
                  have HOFn := hide ((unhide HOF).below hb11X (Nat.le_refl _))
                  have HUn := hide ((unhide HU).below hb11X)
                  have HFINn : Hid (∀ Y, Below w11.heap.size w11 Y → Below w.heap.size w Y) := fun Y hbY => unhide HFIN Y (hb11X.trans (hbY.mono hb11X.size))
                  clear HU HFIN HSP HD HC6 HC8 g0 g1 g2 g3 g4 g5 lP lT hb11 hb11X HC10 HT9 HTl HTm1 HTm2
                  (try clear HOF)
                  obtain ⟨X, hXn⟩ : ∃ Z, Z = w11 := ⟨_, rfl⟩
                  subst hXn
                  have HU := HUn
                  clear HUn
                  have HFIN := HFINn
                  clear HFINn
                  have HOF := HOFn
                  clear HOFn
                  have HC6 := hide (fun (Y : World) (hb : Below X.heap.size X Y) => copyV_any ((unhide HU).below hb).ar (by have := unhide HAN; omega))
                  have HC8 := hide (fun (Y : World) (hb : Below X.heap.size X Y) => copyMs_any ((unhide HU).below hb).fl (unhide HfN) (fun g hg => Nat.le_of_lt (unhide HS g hg)))
                  have HSP := hide (fun (Y : World) (hb : Below X.heap.size X Y) => ((unhide HU).below hb).cells)
                  have HD : Hid (Below X.heap.size X X.drew) := below_drw (Below.refl _ X)
                  obtain ⟨g0, g1, g2, g3, g4, g5⟩ := (unhide HU).cells
                  obtain ⟨lP, lT⟩ := (unhide HU).lt
                  obtain ⟨gl, hgl⟩ : ∃ n, Hid (g.sl.length = n) := ⟨_, hide rfl⟩
                  obtain ⟨bl, ql, sl, dl, el, ll, kl0, kl1, kl2, hxl, hdla, hdlb⟩ := FsV.three (unhide HU).fl (unhide HHG)
                  subst el
                  rw [unhide hgl] at kl2 hdla
                  have HXL := hide hxl
                  have hglS : gl < 1048576 := by have := unhide HS g (List.mem_of_getElem? (unhide HHG)); have := unhide hgl; omega
                  have HSPL : Hid (∀ Y, Below X.heap.size X Y → Y.cell? ⟨bl, ql + m * 3, none⟩ = some (.int .i64 g.fn) ∧ Y.cell? ⟨bl, ql + m * 3 + 1, none⟩ = some (.int .i64 g.pc) ∧ Y.cell? ⟨bl, ql + m * 3 + 2, none⟩ = some (.slice sl gl dl)) := (have h1 := hide kl0; have h2 := hide kl1; have h3 := hide kl2; fun Y hb => ⟨(hb.cell (p := ⟨bl, _, none⟩) ll).trans (unhide h1), (hb.cell (p := ⟨bl, _, none⟩) ll).trans (unhide h2), (hb.cell (p := ⟨bl, _, none⟩) ll).trans (unhide h3)⟩)
                  have HC6l := hide (fun (Y : World) (hb : Below X.heap.size X Y) => copyV_any (lv := .slice sl gl dl) (l := g.sl) (by have := (unhide HXL).below hb (Nat.le_refl _); rw [unhide hgl] at this ⊢; exact this) (by have := unhide hgl; omega))
                  unfold maxLen at hdlb
                  clear hxl
                  go_wp2_with fail
                  go_cut [15] from 16 (fun t15 wc => ∃ v5 : Value, t15 = v5 ∧ Hid (Below X.heap.size X wc ∧ Rx wc 2 v5 (g.sl ++ [x]).length (flt enI (g.sl ++ [x]))))
                  case first =>
                   as_aux_lemma =>
                    go_region_held3 (fun w' => w'.cell? ⟨bl, ql + m * 3 + 2, none⟩ = some (.slice sl gl dl) ∧ w'.cell? ⟨T, 2, none⟩ = some (.int .i64 x.1) ∧ w'.cell? ⟨T, 3, none⟩ = some (.int .i64 x.2)) (first | go_keep | exact ⟨hL5.2.2, hT5.2.2.2.2.1, hT5.2.2.2.2.2⟩ | exact ⟨hL3.2.2, hT3.2.2.2.2.1, hT3.2.2.2.2.2⟩)
                      (first
                       | (go_at_call 6; (first | refine (unhide HC6l _ (unhide HD)).mono ?_ | refine (unhide HC6l _ ((unhide HD).alloc (Nat.le_refl _) _)).mono ?_); rintro e w3 ⟨v3, rfl, hg3⟩; have hb3X : Below X.heap.size X w3 := (by first | exact (unhide HD).trans hg3.2.1 | exact ((unhide HD).alloc (Nat.le_refl _) _).trans (hg3.2.1.mono (by simp))); have hL3 := unhide HSPL w3 hb3X; have hT3 := unhide HSP w3 hb3X; have hv3 : ∀ k, v3.ownBlock = some k → X.heap.size ≤ k := (fun k hk => by have h1 := hg3.2.2 k hk; (try simp at h1); omega))
                       | ((first | refine step_appW (by rfl) _ _ rfl _ _ rfl rfl _ g.sl x (hg3.1.fr ((Fr.refl (fun _ => False) _).alloc _) (fun _ _ e => e)) (rx_blk zI (heap_alloc_new _ _) [x] rfl 1 rfl (by unfold maxLen; omega)) (by have := unhide hgl; omega) ?_ | refine step_appW (by rfl) _ _ rfl _ _ rfl rfl _ g.sl x hg3.1 (rx_blk zI (blkT (heap_alloc_new _ _) hg3.2.1) [x] rfl 1 rfl (by unfold maxLen; omega)) (by have := unhide hgl; omega) ?_); intro v5 w5 hr5 hgr5 hat5; have hF5 : Fr (fun k => v3.ownBlock = some k) w3 w5 := (by first | exact ((Fr.refl _ w3).alloc _).grown hgr5 (fun k e => .inr e) | exact (Fr.refl _ w3).grown hgr5 (fun k e => .inr e)); have hb5X : Below X.heap.size X w5 := hb3X.trans (hF5.below hb3X.size (fun k hk e => by have := hv3 k e; omega)); have hL5 := unhide HSPL w5 hb5X; have hT5 := unhide HSP w5 hb5X))
                    all_goals (have HR5 : Hid (Rx w5 2 v5 (g.sl ++ [x]).length (flt enI (g.sl ++ [x]))) := (by rw [List.length_append, flt_append, flt_one]; exact Rx.of_ro hr5); go_wp2_with fail; go_meet; case rel => exact ⟨_, rfl, hb5X, unhide HR5⟩)
                  case rest =>
                    obtain ⟨v5, rfl, hF5⟩ := hcut
                    have HV5 := hide (unhide hF5).2
                    have hsp0 := unhide HSPL wc (unhide hF5).1
                    have HOFn := hide ((unhide HOF).below (unhide hF5).1 (Nat.le_refl _))
                    have HV5n := hide (unhide HV5)
                    have HUn := hide ((unhide HU).below (unhide hF5).1)
                    have HFINn : Hid (∀ Y, Below wc.heap.size wc Y → Below w.heap.size w Y) := fun Y hbY => unhide HFIN Y ((unhide hF5).1.trans (hbY.mono (unhide hF5).1.size))
                    clear HU HFIN HSP HD HC6 HC8 g0 g1 g2 g3 g4 g5 lP lT hF5 HSPL HC6l kl0 kl1 kl2 ll HXL
                    (try clear HOF)
                    (try clear HV5)
                    obtain ⟨X, hXn⟩ : ∃ Z, Z = wc := ⟨_, rfl⟩
                    subst hXn
                    have HU := HUn
                    clear HUn
                    have HFIN := HFINn
                    clear HFINn
                    have HOF := HOFn
                    clear HOFn
                    have HV5 := HV5n
                    clear HV5n
                    have HC6 := hide (fun (Y : World) (hb : Below X.heap.size X Y) => copyV_any ((unhide HU).below hb).ar (by have := unhide HAN; omega))
                    have HC8 := hide (fun (Y : World) (hb : Below X.heap.size X Y) => copyMs_any ((unhide HU).below hb).fl (unhide HfN) (fun g hg => Nat.le_of_lt (unhide HS g hg)))
                    have HSP := hide (fun (Y : World) (hb : Below X.heap.size X Y) => ((unhide HU).below hb).cells)
                    have HD : Hid (Below X.heap.size X X.drew) := below_drw (Below.refl _ X)
                    obtain ⟨g0, g1, g2, g3, g4, g5⟩ := (unhide HU).cells
                    obtain ⟨lP, lT⟩ := (unhide HU).lt
                    as_aux_lemma =>
                      obtain ⟨r0, r1, r2⟩ := hsp0
                      have hg9 : (fs.take m ++ [G])[m]? = some G := by have := unhide HLM; rw [List.getElem?_append_right (by rw [List.length_take]; omega), List.length_take, Nat.min_eq_left (by omega), Nat.sub_self]; rfl
                      obtain ⟨b9, q9, s9, d9, e9, l9, k90, k91, k92, hx9, hd9a, hd9b⟩ := FsV.three (unhide HOF) hg9
                      subst e9
                      have hfnG : G.fn = g.fn := by rw [← unhide hG]
                      have hpcG : G.pc = PC := by rw [← unhide hG]
                      have hslG : G.sl = g.sl ++ [x] := by rw [← unhide hG]
                      rw [hfnG] at k90
                      rw [hpcG] at k91
                      rw [hslG] at k92 hx9 hd9a
                      obtain ⟨G1, hG1⟩ : ∃ n, Hid ((g.sl ++ [x]).length = n) := ⟨_, hide rfl⟩
                      have hG1b : G1 ≤ 1048576 := by have := unhide hG1; have := unhide hgl; simp at *; omega
                      rw [unhide hG1] at k92 hd9a
                      have HX9 : Hid (Rx X 2 (.slice s9 G1 d9) (g.sl ++ [x]).length (flt enI (g.sl ++ [x]))) := by rw [← unhide hG1]; exact hx9
                      have HC7 := hide (fun (Y : World) (hb : Below X.heap.size X Y) => sameV_any ((unhide HX9).below hb (Nat.le_refl _)) ((unhide HV5).below hb (Nat.le_refl _)) (by have := unhide hG1; omega))
                      unfold maxLen at hd9b
                      clear hx9 hfnG hpcG hslG hg9
                      obtain ⟨gc, hgc⟩ : ∃ v : Int, g.pc = v := ⟨_, rfl⟩
                      rw [hgc] at r1 hPC
                      clear hgc
                      go_wp2_with fail
                      go_region_held3 (fun w' => w'.cell? ⟨b9, q9 + m * 3, none⟩ = some (.int .i64 g.fn) ∧ w'.cell? ⟨b9, q9 + m * 3 + 1, none⟩ = some (.int .i64 PC) ∧ w'.cell? ⟨b9, q9 + m * 3 + 2, none⟩ = some (.slice s9 G1 d9) ∧ w'.cell? ⟨bl, ql + m * 3, none⟩ = some (.int .i64 g.fn) ∧ w'.cell? ⟨bl, ql + m * 3 + 1, none⟩ = some (.int .i64 gc)) (first | go_keep | exact trivS)
                        (first
                         | (go_at_call 7; refine (unhide HC7 _ (unhide HD)).mono ?_; rintro e w12 ⟨rfl, hb12⟩; have hb12X : Below X.heap.size X w12 := (unhide HD).trans hb12; have trivS : w12.cell? ⟨b9, q9 + m * 3, none⟩ = some (.int .i64 g.fn) ∧ w12.cell? ⟨b9, q9 + m * 3 + 1, none⟩ = some (.int .i64 PC) ∧ w12.cell? ⟨b9, q9 + m * 3 + 2, none⟩ = some (.slice s9 G1 d9) ∧ w12.cell? ⟨bl, ql + m * 3, none⟩ = some (.int .i64 g.fn) ∧ w12.cell? ⟨bl, ql + m * 3 + 1, none⟩ = some (.int .i64 gc) := ⟨(hb12X.cell (p := ⟨b9, _, none⟩) l9).trans k90, (hb12X.cell (p := ⟨b9, _, none⟩) l9).trans k91, (hb12X.cell (p := ⟨b9, _, none⟩) l9).trans k92, (hb12X.cell (p := ⟨bl, _, none⟩) (World.block_lt_of_cell? _ _ r0)).trans r0, (hb12X.cell (p := ⟨bl, _, none⟩) (World.block_lt_of_cell? _ _ r1)).trans r1⟩))
                      have HE := hide (unhide HFIN _ hb12X)
                      clear trivS hb12 hb12X HC7
                      go_wp2_with fail
                      go_ret
                      exact ⟨rfl, unhide HE⟩
end Go.Proofs.Ytfcgpafjhifogab
