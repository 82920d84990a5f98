/-
  The document's Takes.
-/
import Derived.Test.YtfcgpafjhifogaaREnt
namespace Go.Proofs.Ytfcgpafjhifogaa
open Go.RowKit
set_option linter.unusedVariables false
set_option linter.unusedSimpArgs false
/-- This number is the place of the handler that takes what is thrown; -1: none does. -/
def tkI (p : Pg) (f : Fm) (r : Int) : Prop := (r = -1 ∧ tk p f = none) ∨ ∃ (i : Nat) (g : Fc) (h : Hd), r = (i : Int) ∧ fnAt p f.fn = some g ∧ g.hs[i]? = some h ∧ tk p f = some ((g.locals + h.height).toNat, h.target) ∧ fitB g.locals h.height f.sl.length = true
set_option maxRecDepth 100000 in
set_option maxHeartbeats 6400000 in
theorem rtakes_any {w : World} {pv fv : Value} {p : Pg} {f : Fm} (h : PgV w pv p) (hf : FmA w fv f) (hN : p.funcs.length ≤ 1048576) (hO : ∀ g, fnAt p f.fn = some g → g.hs.length ≤ 1048576 ∧ g.locals < 9223372036854775808) (hS : f.sl.length ≤ 1048576) :
    Calls Try.prog 52 #[pv, fv] w fun e w' => ∃ r, e = .returned (.int .i64 r) ∧ tkI p f r ∧ Below w.heap.size w w' := by
  obtain ⟨sv, rfl, hsv⟩ := hf
  obtain ⟨sa, sc, rfl⟩ : ∃ a c, sv = .slice a f.sl.length c := by obtain ⟨_, a, c, e, _⟩ := hsv; exact ⟨a, c, e⟩
  obtain ⟨pa, pb, rfl⟩ : ∃ a b, pv = .agg #[a, b] := by obtain ⟨a, b, e, _⟩ := h; exact ⟨a, b, e⟩
  obtain ⟨pba, pbc, epb, hat⟩ : ∃ a c, pb = .slice a p.funcs.length c ∧ ∀ (i : Nat) (f : Fc), p.funcs[i]? = some f → ∃ b off x, a = some ⟨b, off, none⟩ ∧ b < w.heap.size ∧ FnV w f x ∧ ∀ (j : Nat) u, (enF x)[j]? = some u → w.cell? ⟨b, off + i * 5 + j, none⟩ = some u := by
    obtain ⟨_, _, e, _, hfs⟩ := h
    obtain ⟨a, c, e2, _, _, h3⟩ := hfs.at
    cases e; exact ⟨a, c, e2, h3⟩
  subst epb
  have HAT := hide hat
  have HC := hide (fun o1 o2 => rfun_any (h.below (Below.alloc2 w o1 o2) (Nat.le_refl _)) f.fn hN)
  have HO := hide hO
  clear h hsv hO hat
  obtain ⟨N, hNs⟩ : ∃ N, Hid (f.sl.length = N) := ⟨_, hide rfl⟩
  obtain ⟨NF, hNF⟩ : ∃ n, Hid (p.funcs.length = n) := ⟨_, hide rfl⟩
  rw [unhide hNs] at hS ⊢
  rw [unhide hNF] at hN HC ⊢
  obtain ⟨o, ho⟩ : ∃ g, Hid (fnAt p f.fn = g) := ⟨_, hide rfl⟩
  rw [unhide ho] at HC
  go_enter Try.func52, Try.ntmps52
  go_wp2_with fail
  refine (unhide HC _ _).mono ?_
  rintro e w1 ⟨rfl, hb1⟩
  obtain ⟨b1, b2⟩ := blk2 w (.cells #[pa, .slice pba NF pbc] 25) (.cells #[.int .i64 f.fn, .int .i64 f.pc, .slice sa N sc] 30)
  obtain ⟨c1, _, l1⟩ := blk_cells ((hb1.block w.heap.size (by simp only [World.size_alloc]; omega)).trans b1)
  have hB2 := (hb1.block (w.heap.size + 1) (by simp only [World.size_alloc]; omega)).trans b2
  obtain ⟨c2, _, l2⟩ := blk_cells hB2
  have hbw1 := (Below.alloc2 w (.cells #[pa, .slice pba NF pbc] 25) (.cells #[.int .i64 f.fn, .int .i64 f.pc, .slice sa N sc] 30)).trans (hb1.mono (by simp only [World.size_alloc]; omega))
  have hsz1 := hb1.size
  simp only [World.size_alloc] at hsz1
  have HW1 := hide hbw1
  have HBX := hide hB2
  have k1 := c1 1
  have x0 := c2 0
  clear c1 c2 b1 b2 HC hb1 hB2 hbw1
  cases o with
  | none =>
    simp only [Option.isSome_none]
    go_wp2_with fail
    go_ret
    refine ⟨_, rfl, .inl ⟨rfl, ?_⟩, unhide HW1⟩
    unfold tk
    rw [unhide ho]
    rfl
  | some g =>
    simp only [Option.isSome_some]
    obtain ⟨q0, q1, q2⟩ := fnAt_some (unhide ho)
    obtain ⟨K, hK⟩ : ∃ K : Nat, Hid (f.fn.toNat = K) := ⟨_, hide rfl⟩
    rw [unhide hK] at q2
    obtain ⟨bf, off, x, epa, lbf, hx, hcs⟩ := unhide HAT K g q2
    subst epa
    have hx1 := hx.below (unhide HW1) (Nat.le_refl _)
    obtain ⟨a1, c1, a2, c2, rfl⟩ := hx1.parts
    have HHS := hide (fun i z (hz : g.hs[i]? = some z) => hx1.2.2.2.2.elem zH hz)
    obtain ⟨hgl, hgm⟩ := unhide HO g (unhide ho)
    have r0 := ((unhide HW1).cell (p := ⟨bf, off + K * 5 + 0, none⟩) lbf).trans (hcs 0 _ rfl)
    have r1 := ((unhide HW1).cell (p := ⟨bf, off + K * 5 + 1, none⟩) lbf).trans (hcs 1 _ rfl)
    have r2 := ((unhide HW1).cell (p := ⟨bf, off + K * 5 + 2, none⟩) lbf).trans (hcs 2 _ rfl)
    have r3 := ((unhide HW1).cell (p := ⟨bf, off + K * 5 + 3, none⟩) lbf).trans (hcs 3 _ rfl)
    have r4 := ((unhide HW1).cell (p := ⟨bf, off + K * 5 + 4, none⟩) lbf).trans (hcs 4 _ rfl)
    rw [Nat.add_zero] at r0
    have lb1 : bf < w1.heap.size := by omega
    have hfk : f.fn = (K : Int) := by have := unhide hK; omega
    have kb0 : (0 : Int) ≤ (K : Int) := by omega
    have kb1 : (K : Int) < (NF : Int) := by rw [unhide hNF] at q1; omega
    have x0' : w1.cell? ⟨w.heap.size + 1, 0, none⟩ = some (.int .i64 (K : Int)) := by rw [← hfk]; exact x0
    have HG := hide (unhide ho)
    obtain ⟨NH, hNH⟩ : ∃ n, Hid (g.hs.length = n) := ⟨_, hide rfl⟩
    simp only [unhide hNH] at r4 HHS hgl
    have HK2 := hide hfk
    clear q0 q1 q2 hx hx1 hcs ho lbf HAT x0 hfk HO
    go_wp2_with fail
    obtain ⟨q, hq⟩ : ∃ q, Hid (w1.heap.size = q) := ⟨_, hide rfl⟩
    obtain ⟨W2, hW2⟩ : ∃ W, Hid (w1.alloc (.cells #[.string g.name, .int .i64 g.params, .int .i64 g.locals, .slice a1 g.code.length c1, .slice a2 NH c2] 83) = W) := ⟨_, hide rfl⟩
    have HBF : Hid (W2.heap[q]? = some (.cells #[.string g.name, .int .i64 g.params, .int .i64 g.locals, .slice a1 g.code.length c1, .slice a2 NH c2] 83)) := by
      rw [← unhide hW2, ← unhide hq]; exact heap_alloc_new w1 _
    have HBX2 : Hid (W2.heap[w.heap.size + 1]? = some (Obj.cells #[Value.int IntKind.i64 f.fn, Value.int IntKind.i64 f.pc, Value.slice sa N sc] 30)) := by
      rw [← unhide hW2, Below.heap_alloc _ _ _ l2]; exact unhide HBX
    have HW12 : Hid (Below w1.heap.size w1 W2) := by rw [← unhide hW2]; exact (Below.refl _ _).alloc (Nat.le_refl _) _
    rw [unhide hW2, unhide hq]
    clear x0' k1 r0 r1 r2 r3 r4 HBX
    go_loopg [6] NH (fun gg t6 wr => ∃ (i : Nat), Hid (i + gg = NH) ∧ t6 = .int .i64 (i : Int) ∧ Hid (Below W2.heap.size W2 wr ∧ g.hs.find? (tkB f g.locals) = (g.hs.drop i).find? (tkB f g.locals)))
    case atStart => exact ⟨0, by unfold Hid; omega, rfl, Below.refl _ _, by simp⟩
    case round =>
      obtain ⟨i, hi, rfl, hG⟩ := hrel
      have bw := (unhide hG).1
      obtain ⟨d1, _, l3⟩ := blk_cells ((bw.block q (blk_cells (unhide HBF)).2.2).trans (unhide HBF))
      obtain ⟨d2, _, l4⟩ := blk_cells ((bw.block (w.heap.size + 1) (blk_cells (unhide HBX2)).2.2).trans (unhide HBX2))
      have g2 := d1 2
      have g4 := d1 4
      have x1 := d2 1
      have x2 := d2 2
      clear d1 d2
      by_cases hlt : i < NH
      · obtain ⟨z, hz⟩ : ∃ z, g.hs[i]? = some z := ⟨_, List.getElem?_eq_getElem (by rw [unhide hNH]; exact hlt)⟩
        obtain ⟨hb, ho, hc, eh, _, _, hbl, hcs⟩ := unhide HHS i z hz
        cases eh
        have hbl2 : hb < W2.heap.size := Nat.lt_of_lt_of_le hbl (unhide HW12).size
        have e0 : wr.cell? ⟨hb, ho + i * 4, none⟩ = some (.int .i64 z.frm) := (bw.cell (p := ⟨hb, _, none⟩) hbl2).trans (((unhide HW12).cell (p := ⟨hb, _, none⟩) hbl).trans (hcs 0 _ rfl))
        have e1 : wr.cell? ⟨hb, ho + i * 4 + 1, none⟩ = some (.int .i64 z.to) := (bw.cell (p := ⟨hb, _, none⟩) hbl2).trans (((unhide HW12).cell (p := ⟨hb, _, none⟩) hbl).trans (hcs 1 _ rfl))
        have e2 : wr.cell? ⟨hb, ho + i * 4 + 2, none⟩ = some (.int .i64 z.target) := (bw.cell (p := ⟨hb, _, none⟩) hbl2).trans (((unhide HW12).cell (p := ⟨hb, _, none⟩) hbl).trans (hcs 2 _ rfl))
        have e3 : wr.cell? ⟨hb, ho + i * 4 + 3, none⟩ = some (.int .i64 z.height) := (bw.cell (p := ⟨hb, _, none⟩) hbl2).trans (((unhide HW12).cell (p := ⟨hb, _, none⟩) hbl).trans (hcs 3 _ rfl))
        have hbl3 := Nat.lt_of_lt_of_le hbl2 bw.size
        have i0 : (0 : Int) ≤ (i : Int) := by omega
        have i1 : (i : Int) < (NH : Int) := by omega
        have HZ := hide hz
        have HBW : Hid (∀ (_ : Nat) o, Below W2.heap.size W2 (wr.alloc o)) := fun _ o => bw.alloc bw.size o
        have HQ2 := hide (unhide hq)
        clear hcs bw hz hbl hbl2
        by_cases m1 : z.frm ≤ f.pc
        · have n1 : decide (z.frm ≤ f.pc) = true := decide_eq_true m1
          by_cases m2 : f.pc < z.to
          · have n2 : decide (f.pc < z.to) = true := decide_eq_true m2
            by_cases m3 : 0 ≤ z.height
            · have n3 : decide (0 ≤ z.height) = true := decide_eq_true m3
              by_cases m4 : 0 ≤ g.locals
              · have n4 : decide (0 ≤ g.locals) = true := decide_eq_true m4
                by_cases m5 : z.height ≤ (N : Int)
                · have n5 : decide (z.height ≤ (N : Int)) = true := decide_eq_true m5
                  have hw : IntKind.i64.wrap ((N : Int) - z.height) = (N : Int) - z.height := by go_arith
                  by_cases m6 : g.locals ≤ (N : Int) - z.height
                  · have n6 : decide (g.locals ≤ (N : Int) - z.height) = true := decide_eq_true m6
                    have hq : fitB g.locals z.height N = true := by unfold fitB; simp only [Bool.and_eq_true, decide_eq_true_eq]; omega
                    have HRT : Hid (tkI p f (i : Int)) := by
                      refine .inr ⟨i, g, z, rfl, unhide HG, unhide HZ, ?_, by rw [unhide hNs]; exact hq⟩
                      unfold tk tkG
                      rw [unhide HG]
                      simp only [Option.getD_some]
                      rw [(unhide hG).2, find_hit (unhide HZ) (by unfold tkB; rw [n1, n2, unhide hNs, hq]; rfl)]
                      rfl
                    clear hG hq
                    go_wp2_with fail
                    go_ret
                    exact ⟨_, rfl, unhide HRT, ((unhide HW1).trans ((unhide HW12).mono (by omega))).trans ((unhide HBW 0 _).mono (by have := (unhide HW12).size; omega))⟩
                  · have n6 : decide (g.locals ≤ (N : Int) - z.height) = false := decide_eq_false m6
                    have HF2 : Hid (g.hs.find? (tkB f g.locals) = (g.hs.drop (i + 1)).find? (tkB f g.locals)) := by
                      unfold Hid
                      rw [(unhide hG).2, find_skip (unhide HZ) (by unfold tkB fitB; rw [unhide hNs]; first | (rw [n1]; simp; done) | (rw [n2]; simp; done) | (simp only [Bool.and_eq_false_iff, decide_eq_false_iff_not]; omega))]
                    clear hG
                    go_wp2_with fail
                    go_roundg (gk - 1)
                    case measure => have := unhide hi; omega
                    case rel => exact ⟨i + 1, by have := unhide hi; unfold Hid; omega, by go_num, unhide HBW 0 _, unhide HF2⟩
                · have n5 : decide (z.height ≤ (N : Int)) = false := decide_eq_false m5
                  have HF2 : Hid (g.hs.find? (tkB f g.locals) = (g.hs.drop (i + 1)).find? (tkB f g.locals)) := by
                    unfold Hid
                    rw [(unhide hG).2, find_skip (unhide HZ) (by unfold tkB fitB; rw [unhide hNs]; first | (rw [n1]; simp; done) | (rw [n2]; simp; done) | (simp only [Bool.and_eq_false_iff, decide_eq_false_iff_not]; omega))]
                  clear hG
                  go_wp2_with fail
                  go_roundg (gk - 1)
                  case measure => have := unhide hi; omega
                  case rel => exact ⟨i + 1, by have := unhide hi; unfold Hid; omega, by go_num, unhide HBW 0 _, unhide HF2⟩
              · have n4 : decide (0 ≤ g.locals) = false := decide_eq_false m4
                have HF2 : Hid (g.hs.find? (tkB f g.locals) = (g.hs.drop (i + 1)).find? (tkB f g.locals)) := by
                  unfold Hid
                  rw [(unhide hG).2, find_skip (unhide HZ) (by unfold tkB fitB; rw [unhide hNs]; first | (rw [n1]; simp; done) | (rw [n2]; simp; done) | (simp only [Bool.and_eq_false_iff, decide_eq_false_iff_not]; omega))]
                clear hG
                go_wp2_with fail
                go_roundg (gk - 1)
                case measure => have := unhide hi; omega
                case rel => exact ⟨i + 1, by have := unhide hi; unfold Hid; omega, by go_num, unhide HBW 0 _, unhide HF2⟩
            · have n3 : decide (0 ≤ z.height) = false := decide_eq_false m3
              have HF2 : Hid (g.hs.find? (tkB f g.locals) = (g.hs.drop (i + 1)).find? (tkB f g.locals)) := by
                unfold Hid
                rw [(unhide hG).2, find_skip (unhide HZ) (by unfold tkB fitB; rw [unhide hNs]; first | (rw [n1]; simp; done) | (rw [n2]; simp; done) | (simp only [Bool.and_eq_false_iff, decide_eq_false_iff_not]; omega))]
              clear hG
              go_wp2_with fail
              go_roundg (gk - 1)
              case measure => have := unhide hi; omega
              case rel => exact ⟨i + 1, by have := unhide hi; unfold Hid; omega, by go_num, unhide HBW 0 _, unhide HF2⟩
          · have n2 : decide (f.pc < z.to) = false := decide_eq_false m2
            have HF2 : Hid (g.hs.find? (tkB f g.locals) = (g.hs.drop (i + 1)).find? (tkB f g.locals)) := by
              unfold Hid
              rw [(unhide hG).2, find_skip (unhide HZ) (by unfold tkB fitB; rw [unhide hNs]; first | (rw [n1]; simp; done) | (rw [n2]; simp; done) | (simp only [Bool.and_eq_false_iff, decide_eq_false_iff_not]; omega))]
            clear hG
            go_wp2_with fail
            go_roundg (gk - 1)
            case measure => have := unhide hi; omega
            case rel => exact ⟨i + 1, by have := unhide hi; unfold Hid; omega, by go_num, unhide HBW 0 _, unhide HF2⟩
        · have n1 : decide (z.frm ≤ f.pc) = false := decide_eq_false m1
          have HF2 : Hid (g.hs.find? (tkB f g.locals) = (g.hs.drop (i + 1)).find? (tkB f g.locals)) := by
            unfold Hid
            rw [(unhide hG).2, find_skip (unhide HZ) (by unfold tkB fitB; rw [unhide hNs]; first | (rw [n1]; simp; done) | (rw [n2]; simp; done) | (simp only [Bool.and_eq_false_iff, decide_eq_false_iff_not]; omega))]
          clear hG
          go_wp2_with fail
          go_roundg (gk - 1)
          case measure => have := unhide hi; omega
          case rel => exact ⟨i + 1, by have := unhide hi; unfold Hid; omega, by go_num, unhide HBW 0 _, unhide HF2⟩
      · have hiL : i = NH := by have := unhide hi; omega
        have HRT : Hid (tkI p f (-1)) := by
          refine .inl ⟨rfl, ?_⟩
          unfold tk tkG
          rw [unhide HG]
          simp only [Option.getD_some]
          rw [(unhide hG).2, List.drop_eq_nil_of_le (by rw [unhide hNH]; omega)]
          rfl
        have HBWr := hide bw
        subst hiL
        clear bw
        go_wp2_with fail
        go_ret
        exact ⟨_, rfl, unhide HRT, ((unhide HW1).trans ((unhide HW12).mono (by omega))).trans ((unhide HBWr).mono (by have := (unhide HW12).size; omega))⟩
end Go.Proofs.Ytfcgpafjhifogaa
