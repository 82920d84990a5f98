/-
  Check, of the program: what it answers.
-/
import Derived.Test.YtlogmdldjmkkjaaGreatDoorChk
namespace Go.Proofs.YtlogmdldjmkkjaaGreatDoor
open Go.RowKit
set_option linter.unusedVariables false
set_option linter.unusedSimpArgs false
noncomputable section
/-- What Check answers of a fault. -/
def rsV : Option (Int × Int × Int) → Value
  | none => .tuple #[.agg #[.int .i64 0, .int .i64 0], .int .i64 0]
  | some (k, a, y) => .tuple #[.agg #[.int .i64 k, .int .i64 a], .int .i64 y]
set_option maxRecDepth 100000 in
set_option maxHeartbeats 6400000 in
theorem pCheck_any {w : World} {pv : Value} {p : Pg} (hp : PgV w pv p) (hok : OkP p) (hg : Laid w) : Calls Tryz.prog 18 #[pv] w fun e w' => e = .returned (rsV (ckF p)) ∧ Below w.heap.size w w' := by
  have gl : 0 < w.heap.size := World.block_lt_of_cell? _ _ hg
  have HPV := hide hp
  obtain ⟨cv, fv, rfl, hc, hf⟩ := hp
  obtain ⟨_, ca, ccap, rfl, _, _, _⟩ := hc
  obtain ⟨fa, fcap, rfl, _, _, _⟩ := hf.at
  obtain ⟨NC, hNC⟩ : ∃ n, p.consts.length = n := ⟨_, rfl⟩
  obtain ⟨NF, hNF⟩ : ∃ n, p.funcs.length = n := ⟨_, rfl⟩
  rw [hNC, hNF] at HPV
  rw [hNC, hNF]
  obtain ⟨t1, t2, t3, t4⟩ := two_boxes w #[.slice ca NC ccap, .slice fa NF fcap] #[.int .i64 0, .int .i64 0] 25 46
  have HT := hide (And.intro t1 (And.intro t2 (And.intro t3 t4)))
  have hnw := heap_alloc_new (w.alloc (.cells #[.slice ca NC ccap, .slice fa NF fcap] 25)) (.cells #[.int .i64 0, .int .i64 0] 46)
  simp only [World.size_alloc] at hnw
  have HNW := hide hnw
  have HC := hide (pcheck_any ((unhide HPV).below t3 (Nat.le_refl _)) hok)
  obtain ⟨o, ho⟩ : ∃ o, ckF p = o := ⟨_, rfl⟩
  rw [ho] at HC
  rw [ho]
  have HG := hide hg
  clear t1 t2 t3 t4 hnw hNC hNF ho hf
  go_enter Tryz.func18, Tryz.ntmps18
  go_wp2_with fail
  refine (unhide HC).mono ?_
  rintro e w3 ⟨rfl, hb3⟩
  have bb : Below (w.heap.size + 2) ((w.alloc (.cells #[.slice ca NC ccap, .slice fa NF fcap] 25)).alloc (.cells #[.int .i64 0, .int .i64 0] 46)) w3 := hb3.mono (by rw [(unhide HT).2.2.2]; exact Nat.le_refl _)
  have hs3 : w.heap.size + 2 ≤ w3.heap.size := by have := bb.size; rw [(unhide HT).2.2.2] at this; exact this
  have BB := hide bb
  have g3 : Laid w3 := (bb.cell (p := ⟨0, 0, none⟩) (by simp)).trans (((unhide HT).2.2.1.cell (p := ⟨0, 0, none⟩) gl).trans (unhide HG))
  clear hb3 bb HC
  cases o with
  | none =>
    have HTL := hide (tell_nil w3)
    simp only [wiV]
    go_wp2_with fail
    refine (unhide HTL).mono ?_
    rintro e w4 ⟨rfl, hb4⟩
    have b4 := (unhide BB).trans (hb4.mono hs3)
    have hbl := (b4.block (w.heap.size + 1) (by omega)).trans (unhide HNW)
    have q0 : w4.cell? ⟨w.heap.size + 1, 0, none⟩ = some (.int .i64 0) := by unfold World.cell?; simp only [hbl]; rfl
    have q1 : w4.cell? ⟨w.heap.size + 1, 1, none⟩ = some (.int .i64 0) := by unfold World.cell?; simp only [hbl]; rfl
    have z0 : w4.frozen? ⟨w.heap.size + 1, 0, none⟩ = false := by unfold World.frozen?; simp only [hbl]; rfl
    have z1 : w4.frozen? ⟨w.heap.size + 1, 1, none⟩ = false := by unfold World.frozen?; simp only [hbl]; rfl
    have hwl := World.block_lt_of_cell? _ _ q0
    have hB4 := hide ((unhide HT).2.2.1.trans (b4.mono (by omega)))
    clear hb4 b4 hbl HTL
    go_wp2_with fail
    refine bodyPost_ret (v := .tuple #[.agg #[.int .i64 (0), .int .i64 (0)], .int .i64 (0)]) ?_ rfl ?_
    · rw [results_cell_tmp rfl]
      go_simp
    · exact ⟨rfl, (unhide hB4).trans (Fr.below (S := fun k => k = w.heap.size + 1) (((Fr.refl (fun k => k = w.heap.size + 1) w4).setCell ⟨w.heap.size + 1, 0, none⟩ (.inr rfl) _).setCell ⟨w.heap.size + 1, 1, none⟩ (.inr rfl) _) (by have : w.heap.size + 1 < w4.heap.size := hwl; omega) (fun k hk e => by omega))⟩
  | some q =>
    obtain ⟨k, a, y⟩ := q
    have HTL := hide (tell_any k a y w3 g3)
    simp only [wiV]
    go_wp2_with fail
    refine (unhide HTL).mono ?_
    rintro e w4 ⟨rfl, hb4⟩
    have b4 := (unhide BB).trans (hb4.mono hs3)
    have hbl := (b4.block (w.heap.size + 1) (by omega)).trans (unhide HNW)
    have q0 : w4.cell? ⟨w.heap.size + 1, 0, none⟩ = some (.int .i64 0) := by unfold World.cell?; simp only [hbl]; rfl
    have q1 : w4.cell? ⟨w.heap.size + 1, 1, none⟩ = some (.int .i64 0) := by unfold World.cell?; simp only [hbl]; rfl
    have z0 : w4.frozen? ⟨w.heap.size + 1, 0, none⟩ = false := by unfold World.frozen?; simp only [hbl]; rfl
    have z1 : w4.frozen? ⟨w.heap.size + 1, 1, none⟩ = false := by unfold World.frozen?; simp only [hbl]; rfl
    have hwl := World.block_lt_of_cell? _ _ q0
    have hB4 := hide ((unhide HT).2.2.1.trans (b4.mono (by omega)))
    clear hb4 b4 hbl HTL
    go_wp2_with fail
    refine bodyPost_ret (v := .tuple #[.agg #[.int .i64 (k), .int .i64 (a)], .int .i64 (y)]) ?_ rfl ?_
    · rw [results_cell_tmp rfl]
      go_simp
    · exact ⟨rfl, (unhide hB4).trans (Fr.below (S := fun k => k = w.heap.size + 1) (((Fr.refl (fun k => k = w.heap.size + 1) w4).setCell ⟨w.heap.size + 1, 0, none⟩ (.inr rfl) _).setCell ⟨w.heap.size + 1, 1, none⟩ (.inr rfl) _) (by have : w.heap.size + 1 < w4.heap.size := hwl; omega) (fun k hk e => by omega))⟩
end
end Go.Proofs.YtlogmdldjmkkjaaGreatDoor
