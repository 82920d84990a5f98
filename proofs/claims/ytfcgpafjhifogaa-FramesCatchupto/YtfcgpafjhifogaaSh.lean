/-
  shown.
-/
import Derived.Test.YtfcgpafjhifogaaKn
import Derived.Deep.Cut
namespace Go.Proofs.Ytfcgpafjhifogaa
open Go.RowKit
set_option linter.unusedVariables false
set_option linter.unusedSimpArgs false
theorem blkA (V : World) (c : Obj) (k : Nat) (h : V.heap.size = k) : (V.alloc c).heap[k]? = some c := by rw [← h]; exact heap_alloc_new V c
theorem blkB (V : World) (c z : Obj) (k : Nat) (h : V.heap.size = k) : ((V.alloc c).alloc z).heap[k]? = some c := (Below.heap_alloc _ _ _ (by simp; omega)).trans (blkA V c k h)
theorem blkT {X Y : World} {k : Nat} {o : Obj} (h : X.heap[k]? = some o) (hb : Below X.heap.size X Y) : Y.heap[k]? = some o := (hb.block k (Array.getElem?_eq_some_iff.1 h).1).trans h
theorem below_drw {B : Nat} {w w' : World} (h : Below B w w') : Below B w w'.drew := ⟨h.os, h.tape, h.output, h.size, h.block⟩
theorem rel_store {X w4 : World} {q k : Nat} {sv : Value} {l : List Value} (hb4 : Below X.heap.size X w4) (hq : X.heap.size ≤ q) (hq4 : w4.heap[q]? = some (.cells #[.int .i64 0, .int .i64 0, .slice none 0 0] 30)) (hro : Ro w4 2 sv k l) (hown : ∀ b, sv.ownBlock = some b → b ≠ q) (a b : Int) :
    Below X.heap.size X (((w4.setCell ⟨q, 0, none⟩ (.int .i64 a)).setCell ⟨q, 1, none⟩ (.int .i64 b)).setCell ⟨q, 2, none⟩ sv) ∧ (((w4.setCell ⟨q, 0, none⟩ (.int .i64 a)).setCell ⟨q, 1, none⟩ (.int .i64 b)).setCell ⟨q, 2, none⟩ sv).heap[q]? = some (.cells #[.int .i64 a, .int .i64 b, sv] 30) ∧ Rx (((w4.setCell ⟨q, 0, none⟩ (.int .i64 a)).setCell ⟨q, 1, none⟩ (.int .i64 b)).setCell ⟨q, 2, none⟩ sv) 2 sv k l := by
  have f : Fr (fun z => z = q) w4 (((w4.setCell ⟨q, 0, none⟩ (.int .i64 a)).setCell ⟨q, 1, none⟩ (.int .i64 b)).setCell ⟨q, 2, none⟩ sv) := (((Fr.refl (fun z => z = q) w4).setCell ⟨q, 0, none⟩ (.inr rfl) (.int .i64 a)).setCell ⟨q, 1, none⟩ (.inr rfl) (.int .i64 b)).setCell ⟨q, 2, none⟩ (.inr rfl) sv
  exact ⟨hb4.trans (f.below hb4.size (fun z hz e => by omega)), setCell_block (setCell_block (setCell_block hq4 _) _) _, Rx.of_ro (hro.fr f (fun z hz e => hown z hz e))⟩
theorem kn_len : kn.funcs.length ≤ 1048576 := by decide
theorem kn_ok : ∀ k g, fnAt kn k = some g → g.hs.length ≤ 1048576 ∧ g.locals < 9223372036854775808 := fun k g h => by
  obtain ⟨_, _, h⟩ := fnAt_some h
  have hm := List.mem_of_getElem? h
  simp only [kn, List.mem_cons, List.not_mem_nil, or_false] at hm
  rcases hm with rfl | rfl <;> decide
/-- ints of what was just laid down. -/
theorem ints_blk {W : World} {q : Nat} {arr : Array Value} {e : TypeId} (h : W.heap[q]? = some (.cells arr e)) (l : List Int) (hl : flt enN l = arr.toList) (n : Nat) (hn : l.length = n) (hm : n ≤ 100) :
    Calls Try.prog 33 #[.slice (some ⟨q, 0, none⟩) n n] W fun e w' => ∃ a c, e = .returned (.slice a n c) ∧ Gx W 2 enI (two l) (.slice a n c) w' := by
  have := rx_blk zN h l hl n hn (by unfold maxLen; omega)
  subst hn
  refine (ints_any this (by omega)).mono ?_
  rintro e w' ⟨v, rfl, hg⟩
  obtain ⟨a, c, ev, _⟩ := hg.1.shape
  rw [two_length] at ev
  subst ev
  exact ⟨a, c, rfl, hg⟩
/-- Two frames that were just laid down. -/
theorem fsv_blk2 {X : World} {q : Nat} {f g : Fm} {fv gv : Value} {e : TypeId} (h : X.heap[q]? = some (.cells #[.int .i64 f.fn, .int .i64 f.pc, fv, .int .i64 g.fn, .int .i64 g.pc, gv] e)) (hf : Rx X 2 fv f.sl.length (flt enI f.sl)) (hg : Rx X 2 gv g.sl.length (flt enI g.sl)) : FsV X (.slice (some ⟨q, 0, none⟩) 2 2) [f, g] := by
  refine ⟨[⟨f.fn, f.pc, fv⟩, ⟨g.fn, g.pc, gv⟩], rfl, rx_blk zM h [⟨f.fn, f.pc, fv⟩, ⟨g.fn, g.pc, gv⟩] rfl 2 rfl (by unfold maxLen; omega), fun i z y hz hy => ?_⟩
  match i, hz, hy with
  | 0, hz, hy => cases hz; cases hy; exact ⟨rfl, rfl, hf⟩
  | 1, hz, hy => cases hz; cases hy; exact ⟨rfl, rfl, hg⟩
  | i + 2, hz, hy => simp at hz
theorem fsv_blk1 {X : World} {q : Nat} {f : Fm} {fv : Value} {e : TypeId} (h : X.heap[q]? = some (.cells #[.int .i64 f.fn, .int .i64 f.pc, fv] e)) (hf : Rx X 2 fv f.sl.length (flt enI f.sl)) : FsV X (.slice (some ⟨q, 0, none⟩) 1 1) [f] := by
  refine ⟨[⟨f.fn, f.pc, fv⟩], rfl, rx_blk zM h [⟨f.fn, f.pc, fv⟩] rfl 1 rfl (by unfold maxLen; omega), fun i z y hz hy => ?_⟩
  match i, hz, hy with
  | 0, hz, hy => cases hz; cases hy; exact ⟨rfl, rfl, hf⟩
  | i + 1, hz, hy => simp at hz
def mainF : Fm := ⟨0, 3, two [1]⟩
/-- What stays while the examples go on. -/
structure ShI (P B7 B8 : Nat) (pa pb : Value) (ma : Option Addr) (mc : Nat) (X : World) : Prop where
  bp : X.heap[P]? = some (.cells #[pa, pb] 25)
  pg : PgV X (.agg #[pa, pb]) kn
  bv : X.heap[B7]? = some (.cells #[.int .i64 2, .int .i64 77] 41)
  bm : X.heap[B8]? = some (.cells #[.int .i64 0, .int .i64 3, .slice ma 1 mc] 30)
  ms : Rx X 2 (.slice ma 1 mc) 1 (flt enI (two [1]))
theorem ShI.below {P B7 B8 : Nat} {pa pb : Value} {ma : Option Addr} {mc : Nat} {X Y : World} (h : ShI P B7 B8 pa pb ma mc X) (hb : Below X.heap.size X Y) : ShI P B7 B8 pa pb ma mc Y :=
  ⟨blkT h.bp hb, h.pg.below hb (Nat.le_refl _), blkT h.bv hb, blkT h.bm hb, h.ms.below hb (Nat.le_refl _)⟩
set_option maxRecDepth 100000 in
set_option maxHeartbeats 6400000 in
theorem shown_any (w : World) : Calls Try.prog 29 #[] w fun e w' => e = .returned (.bool true) ∧ Below w.heap.size w w' := by
  have HK := hide (known_any w)
  go_enter Try.func29, Try.ntmps29
  go_wp2_with fail
  refine (unhide HK).mono ?_
  rintro e w1 ⟨v1, rfl, hpg, hb1⟩
  obtain ⟨pa, pb, rfl⟩ : ∃ a b, v1 = .agg #[a, b] := by obtain ⟨a, b, e, _⟩ := hpg; exact ⟨a, b, e⟩
  obtain ⟨paa, pan, pac, epa⟩ : ∃ a n c, pa = .slice a n c := by
    obtain ⟨_, _, e, ⟨_, a, c, e2, _⟩, _⟩ := hpg
    cases e; exact ⟨a, _, c, e2⟩
  obtain ⟨pba, pbn, pbc, epb⟩ : ∃ a n c, pb = .slice a n c := by
    obtain ⟨_, _, e, _, hfs⟩ := hpg
    obtain ⟨a, c, e2, _⟩ := hfs.at
    cases e; exact ⟨a, _, c, e2⟩
  subst epa epb
  have HPG := hide hpg
  have HB1 := hide hb1
  clear hpg hb1 HK
  go_wp2_with fail
  obtain ⟨P, hP⟩ : ∃ P, Hid (w1.heap.size = P) := ⟨_, hide rfl⟩
  obtain ⟨X, hX⟩ : ∃ X, Hid (w1.alloc (.cells #[.slice paa pan pac, .slice pba pbn pbc] 25) = X) := ⟨_, hide rfl⟩
  have HBP : Hid (X.heap[P]? = some (.cells #[.slice paa pan pac, .slice pba pbn pbc] 25)) := by rw [← unhide hX, ← unhide hP]; exact heap_alloc_new w1 _
  have HBX : Hid (Below w.heap.size w X) := by rw [← unhide hX]; exact (unhide HB1).alloc (unhide HB1).size _
  have HPG : Hid (PgV X (.agg #[.slice paa pan pac, .slice pba pbn pbc]) kn) := by rw [← unhide hX]; exact (unhide HPG).below ((Below.refl _ _).alloc (Nat.le_refl _) _) (Nat.le_refl _)
  rw [unhide hX, unhide hP]
  have HSP : Hid (∀ Y, Below X.heap.size X Y → Y.cell? ⟨P, 0, none⟩ = some (.slice paa pan pac) ∧ Y.cell? ⟨P, 1, none⟩ = some (.slice pba pbn pbc)) := fun Y hb => ⟨(blk_cells (blkT (unhide HBP) hb)).1 0, (blk_cells (blkT (unhide HBP) hb)).1 1⟩
  have cP0 := (unhide HSP X (Below.refl _ _)).1
  have cP1 := (unhide HSP X (Below.refl _ _)).2
  have lP : P < X.heap.size := (blk_cells (unhide HBP)).2.2
  have hEN2 : enF' kn 1 (two [8, 9]) = some ⟨1, 0, [(2, 8), (2, 9), (0, 0)]⟩ := rfl
  have HI := hide (fun (V : World) (q : Nat) (h : V.heap[q]? = some (.cells #[.int .i64 8, .int .i64 9] 2)) => ints_blk h [8, 9] rfl 2 rfl (by omega))
  have HE := hide (fun (Y : World) (v : Value) (hb : Below X.heap.size X Y) (hx : Rx Y 2 v 2 (flt enI (two [8, 9]))) => enter_any (pv := .agg #[.slice paa pan pac, .slice pba pbn pbc]) (args := two [8, 9]) 1 ((unhide HPG).below hb (Nat.le_refl _)) hx kn_len (by decide))
  rw [hEN2] at HE
  have HD : Hid (Below X.heap.size X X.drew) := below_drw (Below.refl _ X)
  go_cut [2, 3] from 16 (fun t2 t3 wc => ∃ (q : Nat) (sa : Option Addr) (sc : Nat), t2 = .pointer (some ⟨q, 0, none⟩) ∧ t3 = .bool true ∧ Hid (Below X.heap.size X wc ∧ wc.heap[q]? = some (.cells #[.int .i64 1, .int .i64 0, .slice sa 3 sc] 30) ∧ Rx wc 2 (.slice sa 3 sc) 3 (flt enI ([(2, 8), (2, 9), (0, 0)] : List (Int × Int)))))
  case first =>
    go_region_held3 (fun w' => w'.cell? ⟨P, 0, none⟩ = some (.slice paa pan pac) ∧ w'.cell? ⟨P, 1, none⟩ = some (.slice pba pbn pbc)) (first | go_keep | exact hS4 | exact hS3 | exact unhide HSP _ (rel_store hb4 hqx hq4 hg4.1 (fun b hb => by have h1 := hg4.2.2 b hb; (try simp at h1); omega) _ _).1 | exact unhide HSP _ (hb4.alloc hb4.size _))
      (first
       | (go_at_call 33; refine (unhide HI _ _ (by first | exact heap_alloc_new _ _ | exact blkA _ _ _ (by simp) | exact blkB _ _ _ _ (by simp) | exact blkB _ _ _ _ rfl)).mono ?_; rintro e w3 ⟨a3, c3, rfl, hg3⟩; have hb3 : Below X.heap.size X w3 := (by first | exact ((unhide HD).alloc (Nat.le_refl _) _).trans (hg3.2.1.mono (by simp)) | exact (((unhide HD).alloc (Nat.le_refl _) _).alloc (by simp) _).trans (hg3.2.1.mono (by simp; omega))); have hS3 := unhide HSP w3 hb3)
       | (go_at_call 12; (first | refine (unhide HE _ _ hb3 (Rx.of_ro hg3.1)).mono ?_ | refine (unhide HE _ _ (hb3.alloc hb3.size _) ((Rx.of_ro hg3.1).below ((Below.refl _ _).alloc (Nat.le_refl _) _) (Nat.le_refl _))).mono ?_); rintro e w4 ⟨sv, rfl, hg4⟩; obtain ⟨sa, sc, esv, _⟩ := hg4.1.shape; subst esv; have hb4 : Below X.heap.size X w4 := (by first | exact hb3.trans (hg4.2.1.mono hb3.size) | exact (hb3.alloc hb3.size _).trans (hg4.2.1.mono (by have := hb3.size; simp; omega))); have hS4 := unhide HSP w4 hb4; (first | (have hq4 : w4.heap[X.heap.size]? = some (.cells #[.int .i64 0, .int .i64 0, .slice none 0 0] 30) := (hg4.2.1.block _ (by have := hg3.2.1.size; simp at this; omega)).trans ((hg3.2.1.block _ (by simp; omega)).trans (blkB X.drew _ _ _ rfl)); have hql : X.heap.size < w3.heap.size := (by have := hg3.2.1.size; simp at this; omega); have hqx : X.heap.size ≤ X.heap.size := Nat.le_refl _; obtain ⟨cq, fq, lq⟩ := blk_cells hq4; have cq0 := cq 0; have cq1 := cq 1; have cq2 := cq 2; have fq0 := fq 0; have fq1 := fq 1; have fq2 := fq 2; clear cq fq) | (have hq4 : w4.heap[X.heap.size + 1]? = some (.cells #[.int .i64 0, .int .i64 0, .slice none 0 0] 30) := (hg4.2.1.block _ (by have := hg3.2.1.size; simp at this; omega)).trans ((hg3.2.1.block _ (by simp)).trans (blkA (X.drew.alloc _) _ _ (by simp))); have hql : X.heap.size + 1 < w3.heap.size := (by have := hg3.2.1.size; simp at this; omega); have hqx : X.heap.size ≤ X.heap.size + 1 := Nat.le_succ _; obtain ⟨cq, fq, lq⟩ := blk_cells hq4; have cq0 := cq 0; have cq1 := cq 1; have cq2 := cq 2; have fq0 := fq 0; have fq1 := fq 1; have fq2 := fq 2; clear cq fq) | (have hq4 : w4.heap[w3.heap.size]? = some (.cells #[.int .i64 0, .int .i64 0, .slice none 0 0] 30) := (hg4.2.1.block _ (by simp)).trans (heap_alloc_new w3 _); have hql : w3.heap.size < w3.heap.size + 1 := Nat.lt_succ_self _; have hqx : X.heap.size ≤ w3.heap.size := hb3.size; obtain ⟨cq, fq, lq⟩ := blk_cells hq4; have cq0 := cq 0; have cq1 := cq 1; have cq2 := cq 2; have fq0 := fq 0; have fq1 := fq 1; have fq2 := fq 2; clear cq fq) | skip)))
    all_goals (go_wp2_with fail; go_meet; case rel => first | exact ⟨_, _, _, rfl, rfl, rel_store hb4 hqx hq4 hg4.1 (fun b hb => by have h1 := hg4.2.2 b hb; (try simp at h1); omega) _ _⟩ | exact ⟨_, _, _, rfl, rfl, hb4.alloc hb4.size _, heap_alloc_new _ _, (Rx.of_ro hg4.1).below ((Below.refl _ _).alloc (Nat.le_refl _) _) (Nat.le_refl _)⟩)
  case rest =>
    obtain ⟨q2, sa2, sc2, rfl, rfl, hF2⟩ := hcut
    have hw2 := (unhide hF2).1
    have HBX : Hid (Below w.heap.size w wc) := (unhide HBX).trans (hw2.mono (unhide HBX).size)
    have HPG : Hid (PgV wc (.agg #[.slice paa pan pac, .slice pba pbn pbc]) kn) := (unhide HPG).below hw2 (Nat.le_refl _)
    have HBP : Hid (wc.heap[P]? = some (.cells #[.slice paa pan pac, .slice pba pbn pbc] 25)) := blkT (unhide HBP) hw2
    obtain ⟨X2, hX2⟩ : ∃ Z, Z = wc := ⟨_, rfl⟩
    subst hX2
    clear HI HE HD HSP cP0 cP1 lP
    have HT2 : Hid (X2.heap[q2]? = some (.cells #[.int .i64 1, .int .i64 0, .slice sa2 3 sc2] 30) ∧ Rx X2 2 (.slice sa2 3 sc2) 3 (flt enI ([(2, 8), (2, 9), (0, 0)] : List (Int × Int)))) := (unhide hF2).2
    clear hw2 hF2
    have HSP : Hid (∀ Y, Below X2.heap.size X2 Y → Y.cell? ⟨P, 0, none⟩ = some (.slice paa pan pac) ∧ Y.cell? ⟨P, 1, none⟩ = some (.slice pba pbn pbc)) := fun Y hb => ⟨(blk_cells (blkT (unhide HBP) hb)).1 0, (blk_cells (blkT (unhide HBP) hb)).1 1⟩
    have cP0 := (unhide HSP X2 (Below.refl _ _)).1
    have cP1 := (unhide HSP X2 (Below.refl _ _)).2
    have lP : P < X2.heap.size := (blk_cells (unhide HBP)).2.2
    go_wp2_with fail
    have hEN3 : enF' kn 1 (two [8]) = none := rfl
    have HI := hide (fun (V : World) (q : Nat) (h : V.heap[q]? = some (.cells #[.int .i64 8] 2)) => ints_blk h [8] rfl 1 rfl (by omega))
    have HE := hide (fun (Y : World) (v : Value) (hb : Below X2.heap.size X2 Y) (hx : Rx Y 2 v 1 (flt enI (two [8]))) => enter_any (pv := .agg #[.slice paa pan pac, .slice pba pbn pbc]) (args := two [8]) 1 ((unhide HPG).below hb (Nat.le_refl _)) hx kn_len (by decide))
    rw [hEN3] at HE
    have HD : Hid (Below X2.heap.size X2 X2.drew) := below_drw (Below.refl _ X2)
    go_cut [4, 5] from 16 (fun t2 t3 wc => ∃ (q : Nat) (sa : Option Addr) (sc : Nat), t2 = .pointer (some ⟨q, 0, none⟩) ∧ t3 = .bool false ∧ Hid (Below X2.heap.size X2 wc ∧ wc.heap[q]? = some (.cells #[.int .i64 0, .int .i64 0, .slice sa 0 sc] 30) ∧ Rx wc 2 (.slice sa 0 sc) 0 (flt enI ([] : List (Int × Int)))))
    case first =>
      go_region_held3 (fun w' => w'.cell? ⟨P, 0, none⟩ = some (.slice paa pan pac) ∧ w'.cell? ⟨P, 1, none⟩ = some (.slice pba pbn pbc)) (first | go_keep | exact hS4 | exact hS3 | exact unhide HSP _ (rel_store hb4 hqx hq4 hg4.1 (fun b hb => by have h1 := hg4.2.2 b hb; (try simp at h1); omega) _ _).1 | exact unhide HSP _ (hb4.alloc hb4.size _))
        (first
         | (go_at_call 33; refine (unhide HI _ _ (by first | exact heap_alloc_new _ _ | exact blkA _ _ _ (by simp) | exact blkB _ _ _ _ (by simp) | exact blkB _ _ _ _ rfl)).mono ?_; rintro e w3 ⟨a3, c3, rfl, hg3⟩; have hb3 : Below X2.heap.size X2 w3 := (by first | exact ((unhide HD).alloc (Nat.le_refl _) _).trans (hg3.2.1.mono (by simp)) | exact (((unhide HD).alloc (Nat.le_refl _) _).alloc (by simp) _).trans (hg3.2.1.mono (by simp; omega))); have hS3 := unhide HSP w3 hb3)
         | (go_at_call 12; (first | refine (unhide HE _ _ hb3 (Rx.of_ro hg3.1)).mono ?_ | refine (unhide HE _ _ (hb3.alloc hb3.size _) ((Rx.of_ro hg3.1).below ((Below.refl _ _).alloc (Nat.le_refl _) _) (Nat.le_refl _))).mono ?_); rintro e w4 ⟨sv, rfl, hg4⟩; obtain ⟨sa, sc, esv, _⟩ := hg4.1.shape; subst esv; have hb4 : Below X2.heap.size X2 w4 := (by first | exact hb3.trans (hg4.2.1.mono hb3.size) | exact (hb3.alloc hb3.size _).trans (hg4.2.1.mono (by have := hb3.size; simp; omega))); have hS4 := unhide HSP w4 hb4; (first | (have hq4 : w4.heap[X2.heap.size]? = some (.cells #[.int .i64 0, .int .i64 0, .slice none 0 0] 30) := (hg4.2.1.block _ (by have := hg3.2.1.size; simp at this; omega)).trans ((hg3.2.1.block _ (by simp; omega)).trans (blkB X2.drew _ _ _ rfl)); have hql : X2.heap.size < w3.heap.size := (by have := hg3.2.1.size; simp at this; omega); have hqx : X2.heap.size ≤ X2.heap.size := Nat.le_refl _; obtain ⟨cq, fq, lq⟩ := blk_cells hq4; have cq0 := cq 0; have cq1 := cq 1; have cq2 := cq 2; have fq0 := fq 0; have fq1 := fq 1; have fq2 := fq 2; clear cq fq) | (have hq4 : w4.heap[X2.heap.size + 1]? = some (.cells #[.int .i64 0, .int .i64 0, .slice none 0 0] 30) := (hg4.2.1.block _ (by have := hg3.2.1.size; simp at this; omega)).trans ((hg3.2.1.block _ (by simp)).trans (blkA (X2.drew.alloc _) _ _ (by simp))); have hql : X2.heap.size + 1 < w3.heap.size := (by have := hg3.2.1.size; simp at this; omega); have hqx : X2.heap.size ≤ X2.heap.size + 1 := Nat.le_succ _; obtain ⟨cq, fq, lq⟩ := blk_cells hq4; have cq0 := cq 0; have cq1 := cq 1; have cq2 := cq 2; have fq0 := fq 0; have fq1 := fq 1; have fq2 := fq 2; clear cq fq) | (have hq4 : w4.heap[w3.heap.size]? = some (.cells #[.int .i64 0, .int .i64 0, .slice none 0 0] 30) := (hg4.2.1.block _ (by simp)).trans (heap_alloc_new w3 _); have hql : w3.heap.size < w3.heap.size + 1 := Nat.lt_succ_self _; have hqx : X2.heap.size ≤ w3.heap.size := hb3.size; obtain ⟨cq, fq, lq⟩ := blk_cells hq4; have cq0 := cq 0; have cq1 := cq 1; have cq2 := cq 2; have fq0 := fq 0; have fq1 := fq 1; have fq2 := fq 2; clear cq fq) | skip)))
      all_goals (go_wp2_with fail; go_meet; case rel => first | exact ⟨_, _, _, rfl, rfl, rel_store hb4 hqx hq4 hg4.1 (fun b hb => by have h1 := hg4.2.2 b hb; (try simp at h1); omega) _ _⟩ | exact ⟨_, _, _, rfl, rfl, hb4.alloc hb4.size _, heap_alloc_new _ _, (Rx.of_ro hg4.1).below ((Below.refl _ _).alloc (Nat.le_refl _) _) (Nat.le_refl _)⟩)
    case rest =>
      obtain ⟨q3, sa3, sc3, rfl, rfl, hF3⟩ := hcut
      have hw3 := (unhide hF3).1
      have HBX : Hid (Below w.heap.size w wc) := (unhide HBX).trans (hw3.mono (unhide HBX).size)
      have HPG : Hid (PgV wc (.agg #[.slice paa pan pac, .slice pba pbn pbc]) kn) := (unhide HPG).below hw3 (Nat.le_refl _)
      have HBP : Hid (wc.heap[P]? = some (.cells #[.slice paa pan pac, .slice pba pbn pbc] 25)) := blkT (unhide HBP) hw3
      obtain ⟨X3, hX3⟩ : ∃ Z, Z = wc := ⟨_, rfl⟩
      subst hX3
      clear HI HE HD HSP cP0 cP1 lP
      have HT2 : Hid (X3.heap[q2]? = some (.cells #[.int .i64 1, .int .i64 0, .slice sa2 3 sc2] 30) ∧ Rx X3 2 (.slice sa2 3 sc2) 3 (flt enI ([(2, 8), (2, 9), (0, 0)] : List (Int × Int)))) := ⟨blkT (unhide HT2).1 hw3, (unhide HT2).2.below hw3 (Nat.le_refl _)⟩
      clear hw3 hF3
      go_wp2_with fail
      refine (ints_blk (heap_alloc_new _ _) [8, 9] rfl 2 rfl (by omega)).mono ?_
      rintro e w5 ⟨a5, c5, rfl, hg5⟩
      have hb5 : Below X3.heap.size X3 w5 := ((Below.refl _ X3).alloc (Nat.le_refl _) _).trans (hg5.2.1.mono (by simp))
      have HRo : Hid (∀ O, Ro (w5.alloc O) 2 (.slice a5 2 c5) 2 (flt enI (two [8, 9]))) := fun O => hg5.1.fr ((Fr.refl (fun _ => False) w5).alloc O) (fun _ _ e => e)
      have HB5 := hide hb5
      have HG5 := hide hg5
      clear hb5 hg5
      go_wp2_with (first | (at_builtin; refine appV rfl _ _ rfl _ (two [8, 9]) rfl (unhide HRo _) ⟨w5.heap.size, 0, none⟩ 1 ((0 : Int), (0 : Int)) rfl (new_cells _ _ _) (by decide) ?_))
      intro v6 w6 hr6 hg6 hat6
      have hb6 : Below X3.heap.size X3 w6 := (unhide HB5).trans ((((Fr.refl (fun k => (Value.slice a5 2 c5).ownBlock = some k) w5).alloc _).grown hg6 (fun k e => .inr e)).below (unhide HB5).size (fun k hk e => by have := (unhide HG5).2.2 k e; simp at this; omega))
      have hx6 : Rx w6 2 v6 3 (flt enI ([(2, 8), (2, 9), (0, 0)] : List (Int × Int))) := Rx.of_ro hr6
      obtain ⟨a6, c6, ev6, _⟩ : ∃ a c, v6 = .slice a 3 c ∧ True := by obtain ⟨_, a, c, e, _⟩ := hx6; exact ⟨a, c, e, trivial⟩
      subst ev6
      obtain ⟨d6, _, l6⟩ := blk_cells (blkT (unhide HT2).1 hb6)
      have y0 := d6 0
      have y1 := d6 1
      have y2 := d6 2
      have HS6 := hide (sameV_any (l := [(2, 8), (2, 9), (0, 0)]) ((unhide HT2).2.below hb6 (Nat.le_refl _)) hx6 (by decide))
      have HB6 : Hid (Below X3.heap.size X3 w6) := hb6
      clear hr6 hg6 hat6 hb6 hx6 d6 HB5 HG5 HRo
      go_wp2_with fail
      refine (unhide HS6).mono ?_
      rintro e w7 ⟨rfl, hb7⟩
      have HB7 : Hid (Below X3.heap.size X3 w7) := (unhide HB6).trans (hb7.mono (unhide HB6).size)
      clear hb7 HS6 y0 y1 y2 HB6
      go_wp2_with fail
      refine (ints_blk (blkA _ _ _ (by simp)) [1] rfl 1 rfl (by omega)).mono ?_
      rintro e w8 ⟨ma, mc, rfl, hg8⟩
      have hb78 : Below w7.heap.size w7 w8 := (((Below.refl _ w7).alloc (Nat.le_refl _) _).alloc (by simp) _).trans (hg8.2.1.mono (by simp; omega))
      have hbv8 : w8.heap[w7.heap.size]? = some (.cells #[.int .i64 2, .int .i64 77] 41) := (hg8.2.1.block _ (by simp; omega)).trans (blkB w7 _ _ _ rfl)
      obtain ⟨B7, hB7⟩ : ∃ b, Hid (w7.heap.size = b) := ⟨_, hide rfl⟩
      obtain ⟨B8, hB8⟩ : ∃ b, Hid (w8.heap.size = b) := ⟨_, hide rfl⟩
      obtain ⟨X, hX⟩ : ∃ Z, Hid (w8.alloc (.cells #[.int .i64 0, .int .i64 3, .slice ma 1 mc] 30) = Z) := ⟨_, hide rfl⟩
      have hb8X : Below w8.heap.size w8 X := by rw [← unhide hX]; exact (Below.refl _ _).alloc (Nat.le_refl _) _
      have hb3X : Below X3.heap.size X3 X := ((unhide HB7).trans (hb78.mono (unhide HB7).size)).trans (hb8X.mono (by have := (unhide HB7).size; have := hb78.size; omega))
      have HSH : Hid (ShI P B7 B8 (.slice paa pan pac) (.slice pba pbn pbc) ma mc X) :=
        ⟨blkT (unhide HBP) hb3X, (unhide HPG).below hb3X (Nat.le_refl _), by rw [← unhide hB7]; exact blkT hbv8 hb8X, by rw [← unhide hX, ← unhide hB8]; exact heap_alloc_new w8 _, (Rx.of_ro hg8.1).below hb8X (Nat.le_refl _)⟩
      have HBX : Hid (Below w.heap.size w X) := (unhide HBX).trans (hb3X.mono (unhide HBX).size)
      clear hg8 hb78 hbv8 hb8X hb3X HB7 HT2
      go_wp2_with fail
      rw [unhide hX, unhide hB8, unhide hB7]
      have HSP : Hid (∀ Y, Below X.heap.size X Y → Y.cell? ⟨P, 0, none⟩ = some (.slice paa pan pac) ∧ Y.cell? ⟨P, 1, none⟩ = some (.slice pba pbn pbc) ∧ Y.cell? ⟨B8, 0, none⟩ = some (.int .i64 0) ∧ Y.cell? ⟨B8, 1, none⟩ = some (.int .i64 3) ∧ Y.cell? ⟨B8, 2, none⟩ = some (.slice ma 1 mc) ∧ Y.cell? ⟨B7, 0, none⟩ = some (.int .i64 2) ∧ Y.cell? ⟨B7, 1, none⟩ = some (.int .i64 77)) := fun Y hb => by
        have h := (unhide HSH).below hb
        exact ⟨(blk_cells h.bp).1 0, (blk_cells h.bp).1 1, (blk_cells h.bm).1 0, (blk_cells h.bm).1 1, (blk_cells h.bm).1 2, (blk_cells h.bv).1 0, (blk_cells h.bv).1 1⟩
      obtain ⟨g0, g1, g2, g3, g4, g5, g6⟩ := unhide HSP X (Below.refl _ _)
      have lP : P < X.heap.size := (blk_cells (unhide HSH).bp).2.2
      have l8 : B8 < X.heap.size := (blk_cells (unhide HSH).bm).2.2
      have l7 : B7 < X.heap.size := (blk_cells (unhide HSH).bv).2.2
      have HD : Hid (Below X.heap.size X X.drew) := below_drw (Below.refl _ X)
      have hct : ct kn [mainF, ⟨1, 2, two [1, 2, 3, 4, 5]⟩] (2, 77) = some [mainF, ⟨1, 7, two [1, 2, 3, 4, 77]⟩] := rfl
      have HC := hide (fun (Y : World) (q : Nat) (a : Option Addr) (c : Nat) (hb : Below X.heap.size X Y) (h : Y.heap[q]? = some (.cells #[.int .i64 0, .int .i64 3, .slice ma 1 mc, .int .i64 1, .int .i64 2, .slice a 5 c] 30)) (hx : Rx Y 2 (.slice a 5 c) 5 (flt enI (two [1, 2, 3, 4, 5]))) => catch_any (fs := [mainF, ⟨1, 2, two [1, 2, 3, 4, 5]⟩]) (2, 77) ((unhide HSH).below hb).pg (fsv_blk2 (f := mainF) (g := ⟨1, 2, two [1, 2, 3, 4, 5]⟩) h ((unhide HSH).below hb).ms hx) kn_len kn_ok (by decide) (by decide))
      rw [hct] at HC
      have HI := hide (fun (V : World) (q : Nat) (h : V.heap[q]? = some (.cells #[.int .i64 1, .int .i64 2, .int .i64 3, .int .i64 4, .int .i64 5] 2)) => ints_blk h [1, 2, 3, 4, 5] rfl 5 rfl (by omega))
      go_region_held3 (fun w' => w'.cell? ⟨P, 0, none⟩ = some (.slice paa pan pac) ∧ w'.cell? ⟨P, 1, none⟩ = some (.slice pba pbn pbc) ∧ w'.cell? ⟨B8, 0, none⟩ = some (.int .i64 0) ∧ w'.cell? ⟨B8, 1, none⟩ = some (.int .i64 3) ∧ w'.cell? ⟨B8, 2, none⟩ = some (.slice ma 1 mc) ∧ w'.cell? ⟨B7, 0, none⟩ = some (.int .i64 2) ∧ w'.cell? ⟨B7, 1, none⟩ = some (.int .i64 77)) (first | go_keep | exact hS4 | exact hS3)
        (first
         | (go_at_call 33; refine (unhide HI _ _ (by first | exact heap_alloc_new _ _ | exact blkA _ _ _ (by simp))).mono ?_; rintro e w3 ⟨a3, c3, rfl, hg3⟩; have hb3 : Below X.heap.size X w3 := ((unhide HD).alloc (Nat.le_refl _) _).trans (hg3.2.1.mono (by simp)); have hS3 := unhide HSP w3 hb3)
         | (go_at_call 19; refine (unhide HC _ _ _ _ (hb3.alloc hb3.size _) (heap_alloc_new _ _) ((Rx.of_ro hg3.1).below ((Below.refl _ _).alloc (Nat.le_refl _) _) (Nat.le_refl _))).mono ?_; rintro e w4 ⟨v4, xs4, rfl, ho4, hb4⟩; have hb4X : Below X.heap.size X w4 := (hb3.alloc hb3.size _).trans (hb4.mono (by have := hb3.size; simp; omega)); have hS4 := unhide HSP w4 hb4X; obtain ⟨a4, c4, ev4, _⟩ := ho4.row.shape; subst ev4))
      have HF4 := hide ho4.fsv
      have HW4 := hide hb4X
      clear hS3 hS4 hg3 hb3 ho4 hb4 hb4X HC HI
      go_wp2_with fail
      have HSHn := hide ((unhide HSH).below (unhide HW4))
      have HBXn := hide ((unhide HBX).trans ((unhide HW4).mono (unhide HBX).size))
      clear HSH HBX HSP g0 g1 g2 g3 g4 g5 g6 lP l8 l7 HD
      obtain ⟨X, hXn⟩ : ∃ Z, Z = w4 := ⟨_, rfl⟩
      subst hXn
      have HSH := HSHn
      have HBX := HBXn
      clear HSHn HBXn
      clear HW4
      have HSP : Hid (∀ Y, Below X.heap.size X Y → Y.cell? ⟨P, 0, none⟩ = some (.slice paa pan pac) ∧ Y.cell? ⟨P, 1, none⟩ = some (.slice pba pbn pbc) ∧ Y.cell? ⟨B8, 0, none⟩ = some (.int .i64 0) ∧ Y.cell? ⟨B8, 1, none⟩ = some (.int .i64 3) ∧ Y.cell? ⟨B8, 2, none⟩ = some (.slice ma 1 mc) ∧ Y.cell? ⟨B7, 0, none⟩ = some (.int .i64 2) ∧ Y.cell? ⟨B7, 1, none⟩ = some (.int .i64 77)) := fun Y hb => by
        have h := (unhide HSH).below hb
        exact ⟨(blk_cells h.bp).1 0, (blk_cells h.bp).1 1, (blk_cells h.bm).1 0, (blk_cells h.bm).1 1, (blk_cells h.bm).1 2, (blk_cells h.bv).1 0, (blk_cells h.bv).1 1⟩
      obtain ⟨g0, g1, g2, g3, g4, g5, g6⟩ := unhide HSP X (Below.refl _ _)
      have lP : P < X.heap.size := (blk_cells (unhide HSH).bp).2.2
      have l8 : B8 < X.heap.size := (blk_cells (unhide HSH).bm).2.2
      have l7 : B7 < X.heap.size := (blk_cells (unhide HSH).bv).2.2
      have HD : Hid (Below X.heap.size X X.drew) := below_drw (Below.refl _ X)
      have HI := hide (fun (V : World) (q : Nat) (h : V.heap[q]? = some (.cells #[.int .i64 1, .int .i64 2, .int .i64 3, .int .i64 4, .int .i64 77] 2)) => ints_blk h [1, 2, 3, 4, 77] rfl 5 rfl (by omega))
      go_region_held3 (fun w' => w'.cell? ⟨P, 0, none⟩ = some (.slice paa pan pac) ∧ w'.cell? ⟨P, 1, none⟩ = some (.slice pba pbn pbc) ∧ w'.cell? ⟨B8, 0, none⟩ = some (.int .i64 0) ∧ w'.cell? ⟨B8, 1, none⟩ = some (.int .i64 3) ∧ w'.cell? ⟨B8, 2, none⟩ = some (.slice ma 1 mc) ∧ w'.cell? ⟨B7, 0, none⟩ = some (.int .i64 2) ∧ w'.cell? ⟨B7, 1, none⟩ = some (.int .i64 77)) (first | go_keep | exact hS3)
        (first
         | (go_at_call 33; refine (unhide HI _ _ (by first | exact heap_alloc_new _ _ | exact blkA _ _ _ (by simp))).mono ?_; rintro e w3 ⟨a3, c3, rfl, hg3⟩; have hb3 : Below X.heap.size X w3 := ((unhide HD).alloc (Nat.le_refl _) _).trans (hg3.2.1.mono (by simp)); have hS3 := unhide HSP w3 hb3))
      obtain ⟨q10, hq10⟩ : ∃ q, Hid (w3.heap.size = q) := ⟨_, hide rfl⟩
      obtain ⟨Y, hY⟩ : ∃ Z, Hid (w3.alloc (.cells #[.int .i64 0, .int .i64 3, .slice ma 1 mc, .int .i64 1, .int .i64 7, .slice a3 5 c3] 30) = Z) := ⟨_, hide rfl⟩
      have hbY : Below X.heap.size X Y := by rw [← unhide hY]; exact hb3.alloc hb3.size _
      have HFW : Hid (FsV Y (.slice (some ⟨q10, 0, none⟩) 2 2) [mainF, ⟨1, 7, two [1, 2, 3, 4, 77]⟩]) := by
        refine fsv_blk2 (f := mainF) (g := ⟨1, 7, two [1, 2, 3, 4, 77]⟩) (e := 30) (fv := .slice ma 1 mc) (gv := .slice a3 5 c3) ?_ ((unhide HSH).below hbY).ms ?_
        · rw [← unhide hY, ← unhide hq10]; exact heap_alloc_new w3 _
        · rw [← unhide hY]; exact (Rx.of_ro hg3.1).below ((Below.refl _ _).alloc (Nat.le_refl _) _) (Nat.le_refl _)
      have HF4 := hide ((unhide HF4).below hbY (Nat.le_refl _))
      have HY := hide hbY
      clear hS3 hg3 hb3 hbY HI
      go_wp2_with fail
      rw [unhide hY, unhide hq10]
      have HSHn := hide ((unhide HSH).below (unhide HY))
      have HBXn := hide ((unhide HBX).trans ((unhide HY).mono (unhide HBX).size))
      clear HSH HBX HSP g0 g1 g2 g3 g4 g5 g6 lP l8 l7 HD
      obtain ⟨X, hXn⟩ : ∃ Z, Z = Y := ⟨_, rfl⟩
      subst hXn
      have HSH := HSHn
      have HBX := HBXn
      clear HSHn HBXn
      clear HY
      refine (sameMs_any (unhide HF4) (unhide HFW) (by decide) (by decide)).mono ?_
      rintro e w9 ⟨rfl, hb9⟩
      have HW9 := hide hb9
      clear hb9 HF4 HFW
      have HSHn := hide ((unhide HSH).below (unhide HW9))
      have HBXn := hide ((unhide HBX).trans ((unhide HW9).mono (unhide HBX).size))
      clear HSH HBX HW9
      obtain ⟨X, hXn⟩ : ∃ Z, Z = w9 := ⟨_, rfl⟩
      subst hXn
      have HSH := HSHn
      have HBX := HBXn
      clear HSHn HBXn
      go_wp2_with fail
      have HSP : Hid (∀ Y, Below X.heap.size X Y → Y.cell? ⟨P, 0, none⟩ = some (.slice paa pan pac) ∧ Y.cell? ⟨P, 1, none⟩ = some (.slice pba pbn pbc) ∧ Y.cell? ⟨B8, 0, none⟩ = some (.int .i64 0) ∧ Y.cell? ⟨B8, 1, none⟩ = some (.int .i64 3) ∧ Y.cell? ⟨B8, 2, none⟩ = some (.slice ma 1 mc) ∧ Y.cell? ⟨B7, 0, none⟩ = some (.int .i64 2) ∧ Y.cell? ⟨B7, 1, none⟩ = some (.int .i64 77)) := fun Y hb => by
        have h := (unhide HSH).below hb
        exact ⟨(blk_cells h.bp).1 0, (blk_cells h.bp).1 1, (blk_cells h.bm).1 0, (blk_cells h.bm).1 1, (blk_cells h.bm).1 2, (blk_cells h.bv).1 0, (blk_cells h.bv).1 1⟩
      obtain ⟨g0, g1, g2, g3, g4, g5, g6⟩ := unhide HSP X (Below.refl _ _)
      have lP : P < X.heap.size := (blk_cells (unhide HSH).bp).2.2
      have l8 : B8 < X.heap.size := (blk_cells (unhide HSH).bm).2.2
      have l7 : B7 < X.heap.size := (blk_cells (unhide HSH).bv).2.2
      have HD : Hid (Below X.heap.size X X.drew) := below_drw (Below.refl _ X)
      have hct : ct kn [mainF, ⟨1, 2, two [1, 2, 3]⟩] (2, 77) = some [mainF, ⟨1, 9, two [1, 2, 3, 77]⟩] := rfl
      have HC := hide (fun (Y : World) (q : Nat) (a : Option Addr) (c : Nat) (hb : Below X.heap.size X Y) (h : Y.heap[q]? = some (.cells #[.int .i64 0, .int .i64 3, .slice ma 1 mc, .int .i64 1, .int .i64 2, .slice a 3 c] 30)) (hx : Rx Y 2 (.slice a 3 c) 3 (flt enI (two [1, 2, 3]))) => catch_any (fs := [mainF, ⟨1, 2, two [1, 2, 3]⟩]) (2, 77) ((unhide HSH).below hb).pg (fsv_blk2 (f := mainF) (g := ⟨1, 2, two [1, 2, 3]⟩) h ((unhide HSH).below hb).ms hx) kn_len kn_ok (by decide) (by decide))
      rw [hct] at HC
      have HI := hide (fun (V : World) (q : Nat) (h : V.heap[q]? = some (.cells #[.int .i64 1, .int .i64 2, .int .i64 3] 2)) => ints_blk h [1, 2, 3] rfl 3 rfl (by omega))
      go_region_held3 (fun w' => w'.cell? ⟨P, 0, none⟩ = some (.slice paa pan pac) ∧ w'.cell? ⟨P, 1, none⟩ = some (.slice pba pbn pbc) ∧ w'.cell? ⟨B8, 0, none⟩ = some (.int .i64 0) ∧ w'.cell? ⟨B8, 1, none⟩ = some (.int .i64 3) ∧ w'.cell? ⟨B8, 2, none⟩ = some (.slice ma 1 mc) ∧ w'.cell? ⟨B7, 0, none⟩ = some (.int .i64 2) ∧ w'.cell? ⟨B7, 1, none⟩ = some (.int .i64 77)) (first | go_keep | exact hS4 | exact hS3)
        (first
         | (go_at_call 33; refine (unhide HI _ _ (by first | exact heap_alloc_new _ _ | exact blkA _ _ _ (by simp))).mono ?_; rintro e w3 ⟨a3, c3, rfl, hg3⟩; have hb3 : Below X.heap.size X w3 := ((unhide HD).alloc (Nat.le_refl _) _).trans (hg3.2.1.mono (by simp)); have hS3 := unhide HSP w3 hb3)
         | (go_at_call 19; refine (unhide HC _ _ _ _ (hb3.alloc hb3.size _) (heap_alloc_new _ _) ((Rx.of_ro hg3.1).below ((Below.refl _ _).alloc (Nat.le_refl _) _) (Nat.le_refl _))).mono ?_; rintro e w4 ⟨v4, xs4, rfl, ho4, hb4⟩; have hb4X : Below X.heap.size X w4 := (hb3.alloc hb3.size _).trans (hb4.mono (by have := hb3.size; simp; omega)); have hS4 := unhide HSP w4 hb4X; obtain ⟨a4, c4, ev4, _⟩ := ho4.row.shape; subst ev4))
      have HF4 := hide ho4.fsv
      have HW4 := hide hb4X
      clear hS3 hS4 hg3 hb3 ho4 hb4 hb4X HC HI
      go_wp2_with fail
      have HSHn := hide ((unhide HSH).below (unhide HW4))
      have HBXn := hide ((unhide HBX).trans ((unhide HW4).mono (unhide HBX).size))
      clear HSH HBX HSP g0 g1 g2 g3 g4 g5 g6 lP l8 l7 HD
      obtain ⟨X, hXn⟩ : ∃ Z, Z = w4 := ⟨_, rfl⟩
      subst hXn
      have HSH := HSHn
      have HBX := HBXn
      clear HSHn HBXn
      clear HW4
      have HSP : Hid (∀ Y, Below X.heap.size X Y → Y.cell? ⟨P, 0, none⟩ = some (.slice paa pan pac) ∧ Y.cell? ⟨P, 1, none⟩ = some (.slice pba pbn pbc) ∧ Y.cell? ⟨B8, 0, none⟩ = some (.int .i64 0) ∧ Y.cell? ⟨B8, 1, none⟩ = some (.int .i64 3) ∧ Y.cell? ⟨B8, 2, none⟩ = some (.slice ma 1 mc) ∧ Y.cell? ⟨B7, 0, none⟩ = some (.int .i64 2) ∧ Y.cell? ⟨B7, 1, none⟩ = some (.int .i64 77)) := fun Y hb => by
        have h := (unhide HSH).below hb
        exact ⟨(blk_cells h.bp).1 0, (blk_cells h.bp).1 1, (blk_cells h.bm).1 0, (blk_cells h.bm).1 1, (blk_cells h.bm).1 2, (blk_cells h.bv).1 0, (blk_cells h.bv).1 1⟩
      obtain ⟨g0, g1, g2, g3, g4, g5, g6⟩ := unhide HSP X (Below.refl _ _)
      have lP : P < X.heap.size := (blk_cells (unhide HSH).bp).2.2
      have l8 : B8 < X.heap.size := (blk_cells (unhide HSH).bm).2.2
      have l7 : B7 < X.heap.size := (blk_cells (unhide HSH).bv).2.2
      have HD : Hid (Below X.heap.size X X.drew) := below_drw (Below.refl _ X)
      have HI := hide (fun (V : World) (q : Nat) (h : V.heap[q]? = some (.cells #[.int .i64 1, .int .i64 2, .int .i64 3, .int .i64 77] 2)) => ints_blk h [1, 2, 3, 77] rfl 4 rfl (by omega))
      go_region_held3 (fun w' => w'.cell? ⟨P, 0, none⟩ = some (.slice paa pan pac) ∧ w'.cell? ⟨P, 1, none⟩ = some (.slice pba pbn pbc) ∧ w'.cell? ⟨B8, 0, none⟩ = some (.int .i64 0) ∧ w'.cell? ⟨B8, 1, none⟩ = some (.int .i64 3) ∧ w'.cell? ⟨B8, 2, none⟩ = some (.slice ma 1 mc) ∧ w'.cell? ⟨B7, 0, none⟩ = some (.int .i64 2) ∧ w'.cell? ⟨B7, 1, none⟩ = some (.int .i64 77)) (first | go_keep | exact hS3)
        (first
         | (go_at_call 33; refine (unhide HI _ _ (by first | exact heap_alloc_new _ _ | exact blkA _ _ _ (by simp))).mono ?_; rintro e w3 ⟨a3, c3, rfl, hg3⟩; have hb3 : Below X.heap.size X w3 := ((unhide HD).alloc (Nat.le_refl _) _).trans (hg3.2.1.mono (by simp)); have hS3 := unhide HSP w3 hb3))
      obtain ⟨q14, hq14⟩ : ∃ q, Hid (w3.heap.size = q) := ⟨_, hide rfl⟩
      obtain ⟨Y, hY⟩ : ∃ Z, Hid (w3.alloc (.cells #[.int .i64 0, .int .i64 3, .slice ma 1 mc, .int .i64 1, .int .i64 9, .slice a3 4 c3] 30) = Z) := ⟨_, hide rfl⟩
      have hbY : Below X.heap.size X Y := by rw [← unhide hY]; exact hb3.alloc hb3.size _
      have HFW : Hid (FsV Y (.slice (some ⟨q14, 0, none⟩) 2 2) [mainF, ⟨1, 9, two [1, 2, 3, 77]⟩]) := by
        refine fsv_blk2 (f := mainF) (g := ⟨1, 9, two [1, 2, 3, 77]⟩) (e := 30) (fv := .slice ma 1 mc) (gv := .slice a3 4 c3) ?_ ((unhide HSH).below hbY).ms ?_
        · rw [← unhide hY, ← unhide hq14]; exact heap_alloc_new w3 _
        · rw [← unhide hY]; exact (Rx.of_ro hg3.1).below ((Below.refl _ _).alloc (Nat.le_refl _) _) (Nat.le_refl _)
      have HF4 := hide ((unhide HF4).below hbY (Nat.le_refl _))
      have HY := hide hbY
      clear hS3 hg3 hb3 hbY HI
      go_wp2_with fail
      rw [unhide hY, unhide hq14]
      have HSHn := hide ((unhide HSH).below (unhide HY))
      have HBXn := hide ((unhide HBX).trans ((unhide HY).mono (unhide HBX).size))
      clear HSH HBX HSP g0 g1 g2 g3 g4 g5 g6 lP l8 l7 HD
      obtain ⟨X, hXn⟩ : ∃ Z, Z = Y := ⟨_, rfl⟩
      subst hXn
      have HSH := HSHn
      have HBX := HBXn
      clear HSHn HBXn
      clear HY
      refine (sameMs_any (unhide HF4) (unhide HFW) (by decide) (by decide)).mono ?_
      rintro e w9 ⟨rfl, hb9⟩
      have HW9 := hide hb9
      clear hb9 HF4 HFW
      have HSHn := hide ((unhide HSH).below (unhide HW9))
      have HBXn := hide ((unhide HBX).trans ((unhide HW9).mono (unhide HBX).size))
      clear HSH HBX HW9
      obtain ⟨X, hXn⟩ : ∃ Z, Z = w9 := ⟨_, rfl⟩
      subst hXn
      have HSH := HSHn
      have HBX := HBXn
      clear HSHn HBXn
      go_wp2_with fail
      have HSP : Hid (∀ Y, Below X.heap.size X Y → Y.cell? ⟨P, 0, none⟩ = some (.slice paa pan pac) ∧ Y.cell? ⟨P, 1, none⟩ = some (.slice pba pbn pbc) ∧ Y.cell? ⟨B8, 0, none⟩ = some (.int .i64 0) ∧ Y.cell? ⟨B8, 1, none⟩ = some (.int .i64 3) ∧ Y.cell? ⟨B8, 2, none⟩ = some (.slice ma 1 mc) ∧ Y.cell? ⟨B7, 0, none⟩ = some (.int .i64 2) ∧ Y.cell? ⟨B7, 1, none⟩ = some (.int .i64 77)) := fun Y hb => by
        have h := (unhide HSH).below hb
        exact ⟨(blk_cells h.bp).1 0, (blk_cells h.bp).1 1, (blk_cells h.bm).1 0, (blk_cells h.bm).1 1, (blk_cells h.bm).1 2, (blk_cells h.bv).1 0, (blk_cells h.bv).1 1⟩
      obtain ⟨g0, g1, g2, g3, g4, g5, g6⟩ := unhide HSP X (Below.refl _ _)
      have lP : P < X.heap.size := (blk_cells (unhide HSH).bp).2.2
      have l8 : B8 < X.heap.size := (blk_cells (unhide HSH).bm).2.2
      have l7 : B7 < X.heap.size := (blk_cells (unhide HSH).bv).2.2
      have HD : Hid (Below X.heap.size X X.drew) := below_drw (Below.refl _ X)
      have hct : ct kn [mainF, ⟨1, 6, two [1, 2, 3]⟩] (2, 77) = none := rfl
      have HC := hide (fun (Y : World) (q : Nat) (a : Option Addr) (c : Nat) (hb : Below X.heap.size X Y) (h : Y.heap[q]? = some (.cells #[.int .i64 0, .int .i64 3, .slice ma 1 mc, .int .i64 1, .int .i64 6, .slice a 3 c] 30)) (hx : Rx Y 2 (.slice a 3 c) 3 (flt enI (two [1, 2, 3]))) => catch_any (fs := [mainF, ⟨1, 6, two [1, 2, 3]⟩]) (2, 77) ((unhide HSH).below hb).pg (fsv_blk2 (f := mainF) (g := ⟨1, 6, two [1, 2, 3]⟩) h ((unhide HSH).below hb).ms hx) kn_len kn_ok (by decide) (by decide))
      rw [hct] at HC
      have HI := hide (fun (V : World) (q : Nat) (h : V.heap[q]? = some (.cells #[.int .i64 1, .int .i64 2, .int .i64 3] 2)) => ints_blk h [1, 2, 3] rfl 3 rfl (by omega))
      go_region_held3 (fun w' => w'.cell? ⟨P, 0, none⟩ = some (.slice paa pan pac) ∧ w'.cell? ⟨P, 1, none⟩ = some (.slice pba pbn pbc) ∧ w'.cell? ⟨B8, 0, none⟩ = some (.int .i64 0) ∧ w'.cell? ⟨B8, 1, none⟩ = some (.int .i64 3) ∧ w'.cell? ⟨B8, 2, none⟩ = some (.slice ma 1 mc) ∧ w'.cell? ⟨B7, 0, none⟩ = some (.int .i64 2) ∧ w'.cell? ⟨B7, 1, none⟩ = some (.int .i64 77)) (first | go_keep | exact hS4 | exact hS3)
        (first
         | (go_at_call 33; refine (unhide HI _ _ (by first | exact heap_alloc_new _ _ | exact blkA _ _ _ (by simp))).mono ?_; rintro e w3 ⟨a3, c3, rfl, hg3⟩; have hb3 : Below X.heap.size X w3 := ((unhide HD).alloc (Nat.le_refl _) _).trans (hg3.2.1.mono (by simp)); have hS3 := unhide HSP w3 hb3)
         | (go_at_call 19; refine (unhide HC _ _ _ _ (hb3.alloc hb3.size _) (heap_alloc_new _ _) ((Rx.of_ro hg3.1).below ((Below.refl _ _).alloc (Nat.le_refl _) _) (Nat.le_refl _))).mono ?_; rintro e w4 ⟨v4, xs4, rfl, ho4, hb4⟩; have hb4X : Below X.heap.size X w4 := (hb3.alloc hb3.size _).trans (hb4.mono (by have := hb3.size; simp; omega)); have hS4 := unhide HSP w4 hb4X; obtain ⟨a4, c4, ev4, _⟩ := ho4.row.shape; subst ev4))
      have HF4 := hide ho4.fsv
      have HW4 := hide hb4X
      clear hS3 hS4 hg3 hb3 ho4 hb4 hb4X HC HI
      have HSHn := hide ((unhide HSH).below (unhide HW4))
      have HBXn := hide ((unhide HBX).trans ((unhide HW4).mono (unhide HBX).size))
      clear HSH HBX HSP g0 g1 g2 g3 g4 g5 g6 lP l8 l7 HD
      obtain ⟨X, hXn⟩ : ∃ Z, Z = w4 := ⟨_, rfl⟩
      subst hXn
      have HSH := HSHn
      have HBX := HBXn
      clear HSHn HBXn
      clear HW4 HF4
      have HSP : Hid (∀ Y, Below X.heap.size X Y → Y.cell? ⟨P, 0, none⟩ = some (.slice paa pan pac) ∧ Y.cell? ⟨P, 1, none⟩ = some (.slice pba pbn pbc) ∧ Y.cell? ⟨B8, 0, none⟩ = some (.int .i64 0) ∧ Y.cell? ⟨B8, 1, none⟩ = some (.int .i64 3) ∧ Y.cell? ⟨B8, 2, none⟩ = some (.slice ma 1 mc) ∧ Y.cell? ⟨B7, 0, none⟩ = some (.int .i64 2) ∧ Y.cell? ⟨B7, 1, none⟩ = some (.int .i64 77)) := fun Y hb => by
        have h := (unhide HSH).below hb
        exact ⟨(blk_cells h.bp).1 0, (blk_cells h.bp).1 1, (blk_cells h.bm).1 0, (blk_cells h.bm).1 1, (blk_cells h.bm).1 2, (blk_cells h.bv).1 0, (blk_cells h.bv).1 1⟩
      obtain ⟨g0, g1, g2, g3, g4, g5, g6⟩ := unhide HSP X (Below.refl _ _)
      have lP : P < X.heap.size := (blk_cells (unhide HSH).bp).2.2
      have l8 : B8 < X.heap.size := (blk_cells (unhide HSH).bm).2.2
      have l7 : B7 < X.heap.size := (blk_cells (unhide HSH).bv).2.2
      have HD : Hid (Below X.heap.size X X.drew) := below_drw (Below.refl _ X)
      have hrt : rt [mainF, ⟨1, 5, []⟩] (2, 77) = some [⟨0, 4, two [1, 77]⟩] := rfl
      have HR := hide (fun (Y : World) (q : Nat) (hb : Below X.heap.size X Y) (h : Y.heap[q]? = some (.cells #[.int .i64 0, .int .i64 3, .slice ma 1 mc, .int .i64 1, .int .i64 5, .slice none 0 0] 30)) => return_any (pv := .agg #[.slice paa pan pac, .slice pba pbn pbc]) (2, 77) ⟨_, _, rfl⟩ (fsv_blk2 (f := mainF) (g := ⟨1, 5, []⟩) h ((unhide HSH).below hb).ms (by simpa [flt] using Rx.nil Y 2)) (by decide) (by decide))
      rw [hrt] at HR
      go_wp2_with fail
      refine (unhide HR _ _ ((Below.refl _ X).alloc (Nat.le_refl _) _) (heap_alloc_new _ _)).mono ?_
      rintro e w5 ⟨v5, xs5, rfl, ho5, hb5⟩
      have hb5X : Below X.heap.size X w5 := ((Below.refl _ X).alloc (Nat.le_refl _) _).trans (hb5.mono (by simp))
      obtain ⟨a5', c5', ev5, _⟩ := ho5.row.shape
      subst ev5
      have HF5 := hide ho5.fsv
      have HW5 := hide hb5X
      clear ho5 hb5 hb5X HR
      go_wp2_with fail
      refine (ints_blk (heap_alloc_new _ _) [1, 77] rfl 2 rfl (by omega)).mono ?_
      rintro e w6 ⟨a7, c7, rfl, hg7⟩
      have hb6 : Below w5.heap.size w5 w6 := ((Below.refl _ w5).alloc (Nat.le_refl _) _).trans (hg7.2.1.mono (by simp))
      have HF7 := hide (fun (Y : World) (q : Nat) (hb : Below w6.heap.size w6 Y) (h : Y.heap[q]? = some (.cells #[.int .i64 0, .int .i64 4, .slice a7 2 c7] 30)) => sameMs_any (fs := [⟨0, 4, two [1, 77]⟩]) (((unhide HF5).below hb6 (Nat.le_refl _)).below hb (Nat.le_refl _)) (fsv_blk1 (f := ⟨0, 4, two [1, 77]⟩) h ((Rx.of_ro hg7.1).below hb (Nat.le_refl _))) (by decide) (by decide))
      have HW6 : Hid (Below w.heap.size w w6) := ((unhide HBX).trans ((unhide HW5).mono (unhide HBX).size)).trans (hb6.mono (by have := (unhide HBX).size; have := (unhide HW5).size; omega))
      clear hg7 hb6 HF5
      go_wp2_with fail
      refine (unhide HF7 _ _ ((Below.refl _ _).alloc (Nat.le_refl _) _) (heap_alloc_new _ _)).mono ?_
      rintro e w8' ⟨rfl, hb8'⟩
      have HFIN : Hid (Below w.heap.size w w8') := ((unhide HW6).alloc (unhide HW6).size _).trans (hb8'.mono (by have := (unhide HW6).size; simp; omega))
      clear hb8' HF7
      go_wp2_with fail
      go_ret
      exact ⟨rfl, unhide HFIN⟩
end Go.Proofs.Ytfcgpafjhifogaa
