/-
  The first fault of one function.
-/
import Derived.Test.YtlogmdldjmkkjaaGreatDoorCode
namespace Go.Proofs.YtlogmdldjmkkjaaGreatDoor
open Go.RowKit Go.Maps
set_option linter.unusedVariables false
set_option linter.unusedSimpArgs false
theorem Rfs.at {w : World} {v : Value} {fs : List Fc} (h : Rfs w v fs) : ∃ a cap, v = .slice a fs.length cap ∧ fs.length ≤ cap ∧ cap ≤ maxLen ∧ ∀ (i : Nat) (f : Fc), fs[i]? = some f → ∃ b off x, a = some ⟨b, off, none⟩ ∧ b < w.heap.size ∧ FnV w f x ∧ ∀ (j : Nat) u, (enF x)[j]? = some u → w.cell? ⟨b, off + i * 5 + j, none⟩ = some u := by
  obtain ⟨xs, h1, h2, h3⟩ := h
  have h4 := fun i p (hp : xs[i]? = some p) => h2.elem zF hp
  obtain ⟨_, a, cap, e, hl, hm, _⟩ := h2
  refine ⟨a, cap, by rw [e, h1], by omega, hm, fun i f hf => ?_⟩
  have hi := (List.getElem?_eq_some_iff.1 hf).1
  have hx : xs[i]? = some (xs[i]'(by omega)) := List.getElem?_eq_getElem (by omega)
  obtain ⟨b, off, cap', e', _, _, hb, hc⟩ := h4 i _ hx
  rw [e] at e'
  cases e'
  exact ⟨b, off, _, rfl, hb, h3 i f _ hf hx, hc⟩
/-- The first of two faults. -/
def orE : Option (Int × Int) → Option (Int × Int) → Option (Int × Int)
  | some e, _ => some e
  | none, o => o
def fnF (p : Pg) (f : Fc) (main taken : Bool) : Option (Int × Int) := orE (nmF f.name taken) (orE (szF f main) (orE (cdF p f) (hsF f)))
set_option maxRecDepth 100000 in
set_option maxHeartbeats 6400000 in
theorem checkFunc_any {w : World} {pv : Value} {p : Pg} {k : Nat} {f : Fc} (hp : PgV w pv p) (hk : p.funcs[k]? = some f) (hN : f.code.length ≤ 9000000000000) (hs : f.name.size ≤ 9223372036854775807) {m n : Nat} {g : ByteArray → Option Nat} (hm : Mf w m n g) :
    Calls Tryz.prog 84 #[pv, .int .i64 (k : Int), .map (some m)] w fun e w' => e = .returned (erV (fnF p f (decide (k = 0)) (g f.name).isSome)) ∧ Below w.heap.size w w' := by
  have HPV := hide hp
  obtain ⟨cv, fv, rfl, hc, hf⟩ := hp
  obtain ⟨_, ca, ccap, rfl, _, _, _⟩ := hc
  obtain ⟨fa, fcap, rfl, _, _, hat⟩ := hf.at
  obtain ⟨b, off, x, rfl, hb, hx, cs⟩ := hat k f hk
  have hkl := (List.getElem?_eq_some_iff.1 hk).1
  obtain ⟨a1, c1, a2, c2, rfl⟩ := hx.parts
  have HFN := hide hx
  obtain ⟨NC, hNC⟩ : ∃ n, p.consts.length = n := ⟨_, rfl⟩
  obtain ⟨NF, hNF⟩ : ∃ n, p.funcs.length = n := ⟨_, rfl⟩
  rw [hNC, hNF] at HPV
  rw [hNC, hNF]
  rw [hNF] at hkl
  have k0 : w.cell? ⟨b, off + k * 5, none⟩ = some (.string f.name) := cs 0 _ rfl
  have k1 : w.cell? ⟨b, off + k * 5 + 1, none⟩ = some (.int .i64 f.params) := cs 1 _ rfl
  have k2 : w.cell? ⟨b, off + k * 5 + 2, none⟩ = some (.int .i64 f.locals) := cs 2 _ rfl
  have k3 : w.cell? ⟨b, off + k * 5 + 3, none⟩ = some (.slice a1 f.code.length c1) := cs 3 _ rfl
  have k4 : w.cell? ⟨b, off + k * 5 + 4, none⟩ = some (.slice a2 f.hs.length c2) := cs 4 _ rfl
  have i0 : (0 : Int) ≤ (k : Int) := by omega
  have i1 : (k : Int) < (NF : Int) := by omega
  have kz : ((k : Int) == 0) = decide (k = 0) := by
    by_cases q : k = 0
    · simp [q]
    · rw [decide_eq_false q, beq_eq_false_iff_ne]; omega
  obtain ⟨t1, t2, t3, t4⟩ := two_boxes w #[.slice ca NC ccap, .slice (some ⟨b, off, none⟩) NF fcap] #[.string f.name, .int .i64 f.params, .int .i64 f.locals, .slice a1 f.code.length c1, .slice a2 f.hs.length c2] 25 73
  have HT := hide (And.intro t1 (And.intro t2 (And.intro t3 t4)))
  obtain ⟨mz, hmz⟩ : ∃ z, decide (k = 0) = z := ⟨_, rfl⟩
  rw [hmz] at kz
  rw [hmz]
  have HN1 := hide (checkName_any f.name hs (hm.keep (t3.block m hm.lt)))
  have HS2 := hide (fun wx (hb : Below w.heap.size w wx) => checkSizes_any ((unhide HFN).below hb (Nat.le_refl _)) mz)
  have HC3 := hide (fun wx (hb : Below w.heap.size w wx) => checkCode_any ((unhide HPV).below hb (Nat.le_refl _)) ((unhide HFN).below hb (Nat.le_refl _)) hN)
  have HH4 := hide (fun wx (hb : Below w.heap.size w wx) => checkHandlers_any ((unhide HFN).below hb (Nat.le_refl _)) hN)
  simp only at HS2 HC3 HH4
  obtain ⟨r, hr⟩ : ∃ r, Hid (fnF p f mz (g f.name).isSome = r) := ⟨_, rfl⟩
  rw [unhide hr]
  have hr' := unhide hr
  unfold fnF at hr'
  obtain ⟨o1, h1⟩ : ∃ o, nmF f.name (g f.name).isSome = o := ⟨_, rfl⟩
  obtain ⟨o2, h2⟩ : ∃ o, szF f mz = o := ⟨_, rfl⟩
  obtain ⟨o3, h3⟩ : ∃ o, cdF p f = o := ⟨_, rfl⟩
  obtain ⟨o4, h4⟩ : ∃ o, hsF f = o := ⟨_, rfl⟩
  rw [h1] at HN1 hr'
  rw [h2] at HS2 hr'
  rw [h3] at HC3 hr'
  rw [h4] at HH4 hr'
  have HR := hide hr'
  have bb0 : Below (w.heap.size + 2) ((w.alloc (.cells #[.slice ca NC ccap, .slice (some ⟨b, off, none⟩) NF fcap] 25)).alloc (.cells #[.string f.name, .int .i64 f.params, .int .i64 f.locals, .slice a1 f.code.length c1, .slice a2 f.hs.length c2] 73)) ((w.alloc (.cells #[.slice ca NC ccap, .slice (some ⟨b, off, none⟩) NF fcap] 25)).alloc (.cells #[.string f.name, .int .i64 f.params, .int .i64 f.locals, .slice a1 f.code.length c1, .slice a2 f.hs.length c2] 73)) := Below.refl _ _
  have hB1 := hide t3
  clear t1 t2 t3 t4 hr hr' h1 h2 h3 h4 cs hk hat hx hmz hNC hNF hm
  go_enter Tryz.func84, Tryz.ntmps84
  go_wp2_with fail
  refine (unhide HN1).mono ?_
  rintro e w1 ⟨rfl, rfl⟩
  cases o1 with
  | some q1 =>
    obtain ⟨q1, q2⟩ := q1
    obtain rfl := unhide HR
    simp only [erV, orE]
    go_wp2_with fail
    go_ret
    exact ⟨rfl, unhide hB1⟩
  | none =>
    simp only [erV]
    go_wp2_with fail
    refine (unhide HS2 _ (unhide hB1)).mono ?_
    rintro e w2 ⟨rfl, hb2⟩
    have bb2 : Below (w.heap.size + 2) ((w.alloc (.cells #[.slice ca NC ccap, .slice (some ⟨b, off, none⟩) NF fcap] 25)).alloc (.cells #[.string f.name, .int .i64 f.params, .int .i64 f.locals, .slice a1 f.code.length c1, .slice a2 f.hs.length c2] 73)) w2 := hb2.mono (by rw [(unhide HT).2.2.2]; exact Nat.le_refl _)
    have hB2 := hide ((unhide HT).2.2.1.trans (bb2.mono (by omega)))
    have p02 := (bb2.cell (p := ⟨w.heap.size, 0, none⟩) (by simp)).trans ((unhide HT).1 0)
    have p12 := (bb2.cell (p := ⟨w.heap.size, 1, none⟩) (by simp)).trans ((unhide HT).1 1)
    have f02 := (bb2.cell (p := ⟨w.heap.size + 1, 0, none⟩) (by simp)).trans ((unhide HT).2.1 0)
    have f12 := (bb2.cell (p := ⟨w.heap.size + 1, 1, none⟩) (by simp)).trans ((unhide HT).2.1 1)
    have f22 := (bb2.cell (p := ⟨w.heap.size + 1, 2, none⟩) (by simp)).trans ((unhide HT).2.1 2)
    have f32 := (bb2.cell (p := ⟨w.heap.size + 1, 3, none⟩) (by simp)).trans ((unhide HT).2.1 3)
    have f42 := (bb2.cell (p := ⟨w.heap.size + 1, 4, none⟩) (by simp)).trans ((unhide HT).2.1 4)
    simp only [List.getElem?_toArray, List.getElem?_cons_zero, List.getElem?_cons_succ] at p02 p12 f02 f12 f22 f32 f42
    clear hb2
    cases o2 with
    | some q1 =>
      obtain ⟨q1, q2⟩ := q1
      obtain rfl := unhide HR
      simp only [erV, orE]
      go_wp2_with fail
      go_ret
      exact ⟨rfl, unhide hB2⟩
    | none =>
      simp only [erV]
      go_wp2_with fail
      refine (unhide HC3 _ (unhide hB2)).mono ?_
      rintro e w3 ⟨rfl, hb3⟩
      have s2 := bb2.size
      rw [(unhide HT).2.2.2] at s2
      have bb3 := bb2.trans (hb3.mono s2)
      have hB3 := hide ((unhide HT).2.2.1.trans (bb3.mono (by omega)))
      have p03 := (bb3.cell (p := ⟨w.heap.size, 0, none⟩) (by simp)).trans ((unhide HT).1 0)
      have p13 := (bb3.cell (p := ⟨w.heap.size, 1, none⟩) (by simp)).trans ((unhide HT).1 1)
      have f03 := (bb3.cell (p := ⟨w.heap.size + 1, 0, none⟩) (by simp)).trans ((unhide HT).2.1 0)
      have f13 := (bb3.cell (p := ⟨w.heap.size + 1, 1, none⟩) (by simp)).trans ((unhide HT).2.1 1)
      have f23 := (bb3.cell (p := ⟨w.heap.size + 1, 2, none⟩) (by simp)).trans ((unhide HT).2.1 2)
      have f33 := (bb3.cell (p := ⟨w.heap.size + 1, 3, none⟩) (by simp)).trans ((unhide HT).2.1 3)
      have f43 := (bb3.cell (p := ⟨w.heap.size + 1, 4, none⟩) (by simp)).trans ((unhide HT).2.1 4)
      simp only [List.getElem?_toArray, List.getElem?_cons_zero, List.getElem?_cons_succ] at p03 p13 f03 f13 f23 f33 f43
      clear hb3
      cases o3 with
      | some q1 =>
        obtain ⟨q1, q2⟩ := q1
        obtain rfl := unhide HR
        simp only [erV, orE]
        go_wp2_with fail
        go_ret
        exact ⟨rfl, unhide hB3⟩
      | none =>
        obtain rfl := unhide HR
        simp only [erV, orE]
        go_wp2_with fail
        refine (unhide HH4 _ (unhide hB3)).mono ?_
        rintro e w4 ⟨rfl, hb4⟩
        have hB4 := hide ((unhide hB3).trans (hb4.mono (unhide hB3).size))
        clear hb4
        cases o4 with
        | none =>
          simp only [erV]
          go_wp2_with fail
          go_ret
          exact ⟨rfl, unhide hB4⟩
        | some q1 =>
          obtain ⟨q1, q2⟩ := q1
          simp only [erV]
          go_wp2_with fail
          go_ret
          exact ⟨rfl, unhide hB4⟩
end Go.Proofs.YtlogmdldjmkkjaaGreatDoor
