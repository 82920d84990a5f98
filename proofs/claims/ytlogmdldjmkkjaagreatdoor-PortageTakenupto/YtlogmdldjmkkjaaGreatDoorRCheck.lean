/-
  Check, of the document.
-/
import Derived.Test.YtlogmdldjmkkjaaGreatDoorDDoc
namespace Go.Proofs.YtlogmdldjmkkjaaGreatDoor
open Go.RowKit
set_option linter.unusedVariables false
set_option linter.unusedSimpArgs false
noncomputable section
open Classical
/-- A fault as two numbers. -/
def prV : Option (Int × Int) → Value
  | none => .tuple #[.int .i64 0, .int .i64 0]
  | some (a, y) => .tuple #[.int .i64 a, .int .i64 y]
set_option maxRecDepth 100000 in
set_option maxHeartbeats 12800000 in
theorem head_any {w : World} {pv : Value} {p : Pg} {k : Nat} {f : Fc} (hp : PgV w pv p) (hk : p.funcs[k]? = some f) (hs : f.name.size ≤ 9223372036854775807) :
    Calls Tryz.prog 109 #[pv, .int .i64 (k : Int)] w fun e w' => e = .returned (prV (orE (nmF f.name (decide (∃ g ∈ p.funcs.take k, g.name = f.name))) (szF f (decide (k = 0))))) ∧ Below w.heap.size w w' := by
  obtain ⟨cv, fv, rfl, hc, hf⟩ := hp
  obtain ⟨_, ca, ccap, rfl, _, _, _⟩ := hc
  obtain ⟨fa, fcap, rfl, hNc, hNm, hat⟩ := hf.at
  have HAT := hide hat
  obtain ⟨b, off, x, rfl, hb, hx, cs⟩ := hat k f hk
  have hkl := (List.getElem?_eq_some_iff.1 hk).1
  obtain ⟨a1, c1, a2, c2, rfl⟩ := hx.parts
  obtain ⟨NC, hNC⟩ : ∃ n, p.consts.length = n := ⟨_, rfl⟩
  obtain ⟨NF, hNF⟩ : ∃ n, Hid (p.funcs.length = n) := ⟨_, rfl⟩
  rw [unhide hNF] at hkl hNc
  rw [hNC, unhide hNF]
  have hNx : NF ≤ 9223372036854775807 := Nat.le_trans hNc hNm
  have k0 : w.cell? ⟨b, off + k * 5, none⟩ = some (.string f.name) := cs 0 _ rfl
  have k1 : w.cell? ⟨b, off + k * 5 + 1, none⟩ = some (.int .i64 f.params) := cs 1 _ rfl
  have k2 : w.cell? ⟨b, off + k * 5 + 2, none⟩ = some (.int .i64 f.locals) := cs 2 _ rfl
  have k3 : w.cell? ⟨b, off + k * 5 + 3, none⟩ = some (.slice a1 f.code.length c1) := cs 3 _ rfl
  have k4 : w.cell? ⟨b, off + k * 5 + 4, none⟩ = some (.slice a2 f.hs.length c2) := cs 4 _ rfl
  have i0 : (0 : Int) ≤ (k : Int) := by omega
  have i1 : (k : Int) < (NF : Int) := by omega
  have kz : ((k : Int) == 0) = decide (k = 0) := by
    by_cases q : k = 0
    · simp [q]
    · rw [decide_eq_false q, beq_eq_false_iff_ne]; omega
  obtain ⟨t1, t2, t3, t4⟩ := two_boxes w #[.slice ca NC ccap, .slice (some ⟨b, off, none⟩) NF fcap] #[.string f.name, .int .i64 f.params, .int .i64 f.locals, .slice a1 f.code.length c1, .slice a2 f.hs.length c2] 25 73
  have HT := hide (And.intro t1 (And.intro t2 (And.intro t3 t4)))
  obtain ⟨mz, hmz⟩ : ∃ z, decide (k = 0) = z := ⟨_, rfl⟩
  rw [hmz] at kz
  rw [hmz]
  have kbeg := k0
  obtain ⟨r, hr⟩ : ∃ r, Hid (orE (nmF f.name (decide (∃ g ∈ p.funcs.take k, g.name = f.name))) (szF f mz) = r) := ⟨_, rfl⟩
  rw [unhide hr]
  have HL := hide letter_any
  have hB1 := hide t3
  clear cs hk hat hx hmz hNC
  go_enter Tryz.func109, Tryz.ntmps109
  go_wp2_with fail
  go_loopg [7] f.name.size (fun gg t7 wr => ∃ (i : Nat), Hid (i + gg = f.name.size) ∧ t7 = .int .i64 (i : Int) ∧ wr = ((w.alloc (.cells #[.slice ca NC ccap, .slice (some ⟨b, off, none⟩) NF fcap] 25)).alloc (.cells #[.string f.name, .int .i64 f.params, .int .i64 f.locals, .slice a1 f.code.length c1, .slice a2 f.hs.length c2] 73)) ∧ Hid (∀ j, (h : j < f.name.size) → j < i → letN (f.name[j]).toNat = true))
  case atStart => exact ⟨0, by unfold Hid; omega, rfl, rfl, by unfold Hid; intro j h hj; omega⟩
  case round =>
    obtain ⟨i, hi, rfl, rfl, hM⟩ := hrel
    have x0 := t2 0
    have x1 := t2 1
    have x2 := t2 2
    have x3 := t2 3
    have x4 := t2 4
    have y1 := t1 1
    simp only [List.getElem?_toArray, List.getElem?_cons_zero, List.getElem?_cons_succ] at x0 x1 x2 x3 x4 y1
    by_cases hlt : i < f.name.size
    · have j0 : (0 : Int) ≤ (i : Int) := by omega
      have j1 : (i : Int) < (f.name.size : Int) := by omega
      have HLi := hide (unhide HL (f.name[i]) ((w.alloc (.cells #[.slice ca NC ccap, .slice (some ⟨b, off, none⟩) NF fcap] 25)).alloc (.cells #[.string f.name, .int .i64 f.params, .int .i64 f.locals, .slice a1 f.code.length c1, .slice a2 f.hs.length c2] 73)))
      clear t1 t2 t3 t4
      go_wp2_with fail
      refine (unhide HLi).mono ?_
      rintro e w2 ⟨rfl, rfl⟩
      cases hl : letN (f.name[i]).toNat
      · have hsp : spB f.name = false := by
          have : allL f.name = false := decide_eq_false (fun q => by have := q i hlt; rw [hl] at this; cases this)
          simp [spB, this]
        obtain rfl : r = some (0, 6) := by rw [← unhide hr]; unfold nmF; rw [if_pos hsp]; rfl
        go_wp2_with fail
        go_ret2
        exact ⟨rfl, unhide hB1⟩
      · go_wp2_with fail
        go_roundg (gk - 1)
        case measure => have := unhide hi; omega
        case rel => exact ⟨i + 1, by have := unhide hi; unfold Hid; omega, by go_num, rfl, by
          unfold Hid
          intro j h hj
          by_cases q : j = i
          · subst q; exact hl
          · exact unhide hM j h (by omega)⟩
    · have hiL : i = f.name.size := by have := unhide hi; omega
      have hal : allL f.name = true := decide_eq_true (fun j h => unhide hM j h (by omega))
      have j1 : decide ((i : Int) < (f.name.size : Int)) = false := decide_eq_false (by omega)
      have hte : f.name.toList.length = f.name.size := by rw [ByteArray.toList_eq]; exact Array.length_toList
      by_cases h0 : f.name.size = 0
      · have hsp : spB f.name = false := by simp [spB, h0]
        obtain rfl : r = some (0, 6) := by rw [← unhide hr]; unfold nmF; rw [if_pos hsp]; rfl
        have q9 : f.name.toList.isEmpty = true := by rw [List.isEmpty_iff]; exact List.eq_nil_of_length_eq_zero (by omega)
        clear h0 hte hal hiL hsp t1 t2 t3 t4
        go_wp2_with fail
        go_ret2
        exact ⟨rfl, unhide hB1⟩
      · have hsp : spB f.name = true := by simp [spB, hal]; omega
        have q9 : f.name.toList.isEmpty = false := by
          cases e : f.name.toList with
          | nil => rw [e] at hte; simp at hte; omega
          | cons a b => rfl
        have hr2 := unhide hr
        unfold nmF at hr2
        rw [if_neg (by rw [hsp]; decide)] at hr2
        by_cases h32 : f.name.size > 32
        · rw [if_pos h32] at hr2
          obtain rfl : r = some (0, 5) := by rw [← hr2]; rfl
          have k32 : (32 : Int) < (f.name.size : Int) := by omega
          clear h0 hte hal hiL hsp hr2 t1 t2 t3 t4
          go_wp2_with fail
          go_ret2
          exact ⟨rfl, unhide hB1⟩
        · rw [if_neg h32] at hr2
          have k32 : decide ((32 : Int) < (f.name.size : Int)) = false := decide_eq_false (by omega)
          have HR2 := hide hr2
          clear h0 hte hal hiL hsp hr2 t1 t2 t3 t4
          go_wp2_with fail
          go_loopg [8] k (fun gg t8 wr => ∃ (i : Nat), Hid (i + gg = k) ∧ t8 = .int .i64 (i : Int) ∧ Hid (Below (w.heap.size + 2) ((w.alloc (.cells #[.slice ca NC ccap, .slice (some ⟨b, off, none⟩) NF fcap] 25)).alloc (.cells #[.string f.name, .int .i64 f.params, .int .i64 f.locals, .slice a1 f.code.length c1, .slice a2 f.hs.length c2] 73)) wr) ∧ Hid (∀ (j : Nat) (g : Fc), j < i → p.funcs[j]? = some g → g.name ≠ f.name))
          case atStart => exact ⟨0, by unfold Hid; omega, rfl, Below.refl _ _, by unfold Hid; intro j g hj; omega⟩
          case round =>
            clear x0 x1 x2 x3 x4 y1
            obtain ⟨i, hi2, rfl, hB0, hN⟩ := hrel
            have hsz := (unhide hB0).size
            rw [(unhide HT).2.2.2] at hsz
            have x0 := ((unhide hB0).cell (p := ⟨w.heap.size + 1, 0, none⟩) (by simp)).trans ((unhide HT).2.1 0)
            have x1 := ((unhide hB0).cell (p := ⟨w.heap.size + 1, 1, none⟩) (by simp)).trans ((unhide HT).2.1 1)
            have x2 := ((unhide hB0).cell (p := ⟨w.heap.size + 1, 2, none⟩) (by simp)).trans ((unhide HT).2.1 2)
            have x3 := ((unhide hB0).cell (p := ⟨w.heap.size + 1, 3, none⟩) (by simp)).trans ((unhide HT).2.1 3)
            have y1 := ((unhide hB0).cell (p := ⟨w.heap.size, 1, none⟩) (by simp)).trans ((unhide HT).1 1)
            simp only [List.getElem?_toArray, List.getElem?_cons_zero, List.getElem?_cons_succ] at x0 x1 x2 x3 y1
            have hBw := hide ((unhide HT).2.2.1.trans ((unhide hB0).mono (by omega)))
            by_cases hlt2 : i < k
            · obtain ⟨g, hg⟩ : ∃ g, p.funcs[i]? = some g := ⟨_, List.getElem?_eq_getElem (by rw [unhide hNF]; omega)⟩
              obtain ⟨_, _, x, e, _, gx, gcs⟩ := unhide HAT i g hg
              cases e
              have gn := gx.1
              have z0 : wr.cell? ⟨b, off + i * 5, none⟩ = some (.string g.name) := gn ▸ ((unhide hBw).cell (p := ⟨b, off + i * 5, none⟩) hb).trans (gcs 0 _ rfl)
              have hbr := Nat.lt_of_lt_of_le hb (unhide hBw).size
              have j0 : (0 : Int) ≤ (i : Int) := by omega
              have j2 : (i : Int) < (NF : Int) := by omega
              have j3 : (i : Int) < (k : Int) := by omega
              have HGG := hide hg
              clear gcs gx gn hg
              by_cases he : g.name = f.name
              · have hex : ∃ h ∈ p.funcs.take k, h.name = f.name := ⟨g, List.mem_of_getElem? (i := i) (by rw [List.getElem?_take, if_pos hlt2]; exact unhide HGG), he⟩
                obtain rfl : r = some (0, 15) := by rw [← unhide HR2, if_pos (decide_eq_true hex)]; rfl
                rw [he] at z0
                clear hex
                go_wp2_with fail
                go_quiet (fail)
                go_wp2_with fail
                go_ret2
                exact ⟨rfl, (unhide hBw).trans ((Fr.drewN (S := fun _ => False) nq).below (unhide hBw).size (fun _ _ e => e))⟩
              · have hne : (g.name.toList == f.name.toList) = false := by
                  rw [beq_eq_false_iff_ne]
                  intro e
                  apply he
                  rw [ByteArray.toList_eq, ByteArray.toList_eq] at e
                  cases h1 : g.name; cases h2 : f.name
                  rw [h1, h2] at e
                  simp at e
                  rw [e]
                go_wp2_with fail
                go_quiet (fail)
                have hB3 := hide ((unhide hB0).trans ((Fr.drewN (S := fun _ => False) nq).below hsz (fun _ _ e => e)))
                go_wp2_with fail
                go_roundg (gk - 1)
                case measure => have := unhide hi2; omega
                case rel => exact ⟨i + 1, by have := unhide hi2; unfold Hid; omega, by go_num, hB3, by
                  unfold Hid
                  intro j g' hj hg'
                  by_cases q : j = i
                  · subst q; rw [unhide HGG] at hg'; cases hg'; exact he
                  · exact unhide hN j g' (by omega) hg'⟩
            · have hiK : i = k := by have := unhide hi2; omega
              have j3 : decide ((i : Int) < (k : Int)) = false := decide_eq_false (by omega)
              have hno : ¬ ∃ h ∈ p.funcs.take k, h.name = f.name := fun ⟨h, h1, h2⟩ => by
                obtain ⟨j, hj, e⟩ := List.getElem_of_mem h1
                have hji : j < k := by rw [List.length_take] at hj; omega
                have := List.getElem?_eq_getElem hj
                rw [e, List.getElem?_take, if_pos hji] at this
                exact unhide hN j h (by omega) this h2
              have hr3 := unhide HR2
              rw [if_neg (by rw [decide_eq_false hno]; decide)] at hr3
              simp only [orE] at hr3
              clear hno hiK
              have hfin : ∀ (o : Option (Int × Int)), szF f mz = o → r = o := fun o ho => by rw [← hr3, ho]
              by_cases h1 : f.params < 0
              · obtain rfl := hfin (some (0, 1)) (by unfold szF; rw [if_pos (.inl h1)])
                (clear hfin hr3; go_wp2_with fail; go_ret2; exact ⟨rfl, unhide hBw⟩)
              · by_cases h2 : f.locals < f.params
                · obtain rfl := hfin (some (0, 1)) (by unfold szF; rw [if_pos (.inr (.inl h2))])
                  (clear hfin hr3; go_wp2_with fail; go_ret2; exact ⟨rfl, unhide hBw⟩)
                · have k0z : decide (f.params < 0) = false := decide_eq_false h1
                  have k1z : decide (f.locals < f.params) = false := decide_eq_false h2
                  by_cases h3 : mz = true ∧ f.params ≠ 0
                  · obtain rfl := hfin (some (0, 1)) (by unfold szF; rw [if_pos (.inr (.inr h3))])
                    obtain ⟨rfl, h4⟩ := h3
                    have h5 : (f.params != 0) = true := by rw [bne_iff_ne]; exact h4
                    (clear hfin hr3; go_wp2_with fail; go_ret2; exact ⟨rfl, unhide hBw⟩)
                  · have hno : ¬ (f.params < 0 ∨ f.locals < f.params ∨ (mz = true ∧ f.params ≠ 0)) := fun q => by rcases q with q | q | q <;> contradiction
                    have hsz : szF f mz = if f.locals > 64 then some (0, 5) else if f.code.length = 0 then some (0, 2) else if f.code.length > 2000 then some (2000, 5) else none := by unfold szF; rw [if_neg hno]
                    have hm : mz = false ∨ (mz = true ∧ (f.params != 0) = false) := by
                      cases hq : mz
                      · exact .inl rfl
                      · refine .inr ⟨rfl, ?_⟩
                        by_cases q : f.params = 0
                        · simp [q]
                        · exact absurd ⟨hq, q⟩ h3
                    clear hno h3
                    by_cases h4 : f.locals > 64
                    · obtain rfl := hfin (some (0, 5)) (by rw [hsz, if_pos h4])
                      (clear hsz hfin hr3; rcases hm with rfl | ⟨rfl, hm⟩ <;> (go_wp2_with fail; go_ret2; exact ⟨rfl, unhide hBw⟩))
                    · have k4z : decide (f.locals > 64) = false := decide_eq_false h4
                      by_cases h5 : f.code.length = 0
                      · obtain rfl := hfin (some (0, 2)) (by rw [hsz, if_neg h4, if_pos h5])
                        have k5 : ((f.code.length : Int) == 0) = true := beq_iff_eq.2 (by omega)
                        (clear hsz hfin hr3; rcases hm with rfl | ⟨rfl, hm⟩ <;> (go_wp2_with fail; go_ret2; exact ⟨rfl, unhide hBw⟩))
                      · have k5 : ((f.code.length : Int) == 0) = false := beq_eq_false_iff_ne.2 (by omega)
                        by_cases h6 : f.code.length > 2000
                        · obtain rfl := hfin (some (2000, 5)) (by rw [hsz, if_neg h4, if_neg h5, if_pos h6])
                          have k6 : (2000 : Int) < (f.code.length : Int) := by omega
                          (clear hsz hfin hr3; rcases hm with rfl | ⟨rfl, hm⟩ <;> (go_wp2_with fail; go_ret2; exact ⟨rfl, unhide hBw⟩))
                        · obtain rfl := hfin none (by rw [hsz, if_neg h4, if_neg h5, if_neg h6])
                          have k6 : decide ((2000 : Int) < (f.code.length : Int)) = false := decide_eq_false (by omega)
                          (clear hsz hfin hr3; rcases hm with rfl | ⟨rfl, hm⟩ <;> (go_wp2_with fail; go_ret2; exact ⟨rfl, unhide hBw⟩))
end

set_option linter.unusedVariables false
set_option linter.unusedSimpArgs false
noncomputable section
theorem heldIn {W a : World} (h : Below W.heap.size W a) {p : Addr} {v : Value} (hc : W.cell? p = some v) : a.cell? p = some v := (h.cell (World.block_lt_of_cell? _ _ hc)).trans hc
theorem nm_sz_ne {s : ByteArray} {t m : Bool} {f : Fc} {q1 q2 : Int} (h : orE (nmF s t) (szF f m) = some (q1, q2)) : q2 ≠ 0 := by
  unfold nmF szF at h
  by_cases h1 : spB s = false
  · rw [if_pos h1] at h; simp only [orE, Option.some.injEq, Prod.mk.injEq] at h; omega
  · rw [if_neg h1] at h
    by_cases h2 : s.size > 32
    · rw [if_pos h2] at h; simp only [orE, Option.some.injEq, Prod.mk.injEq] at h; omega
    · rw [if_neg h2] at h
      by_cases h3 : t = true
      · rw [if_pos h3] at h; simp only [orE, Option.some.injEq, Prod.mk.injEq] at h; omega
      · rw [if_neg h3] at h
        simp only [orE] at h
        split at h
        · simp only [Option.some.injEq, Prod.mk.injEq] at h; omega
        · split at h
          · simp only [Option.some.injEq, Prod.mk.injEq] at h; omega
          · split at h
            · simp only [Option.some.injEq, Prod.mk.injEq] at h; omega
            · split at h
              · simp only [Option.some.injEq, Prod.mk.injEq] at h; omega
              · cases h
set_option maxRecDepth 100000 in
set_option maxHeartbeats 12800000 in
theorem rfunction_any {w : World} {pv : Value} {p : Pg} {k : Nat} {f : Fc} (hp : PgV w pv p) (hk : p.funcs[k]? = some f) (hs : f.name.size ≤ 9223372036854775807) (hN : f.code.length ≤ 9000000000000) (hI : ∀ q ∈ f.code, I64 q.2) :
    Calls Tryz.prog 64 #[pv, .int .i64 (k : Int)] w fun e w' => e = .returned (prV (fnF p f (decide (k = 0)) (decide (∃ g ∈ p.funcs.take k, g.name = f.name)))) ∧ Below w.heap.size w w' := by
  have HPV := hide hp
  have HII := hide hI
  obtain ⟨cv, fv, rfl, hc, hf⟩ := hp
  obtain ⟨_, ca, ccap, rfl, _, _, _⟩ := hc
  obtain ⟨fa, fcap, rfl, hNc, hNm, hat⟩ := hf.at
  obtain ⟨b, off, x, rfl, hb, hx, cs⟩ := hat k f hk
  have hkl := (List.getElem?_eq_some_iff.1 hk).1
  obtain ⟨a1, c1, a2, c2, rfl⟩ := hx.parts
  have HFN := hide hx
  have HCE := hide (fun i q (hq : f.code[i]? = some q) => hx.2.2.2.1.elem zI hq)
  have HHE := hide (fun i q (hq : f.hs[i]? = some q) => hx.2.2.2.2.elem zH hq)
  simp only at HCE HHE
  obtain ⟨NC, hNC⟩ : ∃ n, p.consts.length = n := ⟨_, rfl⟩
  obtain ⟨NF, hNF⟩ : ∃ n, p.funcs.length = n := ⟨_, rfl⟩
  obtain ⟨CL, hCL⟩ : ∃ n, Hid (f.code.length = n) := ⟨_, rfl⟩
  obtain ⟨HL, hHL⟩ : ∃ n, Hid (f.hs.length = n) := ⟨_, rfl⟩
  rw [hNF] at hkl
  rw [hNC, hNF] at HPV ⊢
  have hb1 : Below w.heap.size w (w.alloc (.cells #[.slice ca NC ccap, .slice (some ⟨b, off, none⟩) NF fcap] 25)) := (Below.refl _ _).alloc (Nat.le_refl _) _
  have HH := hide (head_any ((unhide HPV).below hb1 (Nat.le_refl _)) hk hs)
  rw [unhide hCL] at hN HCE HFN cs
  rw [unhide hHL] at HHE HFN cs
  obtain ⟨o1, ho1⟩ : ∃ o, orE (nmF f.name (decide (∃ g ∈ p.funcs.take k, g.name = f.name))) (szF f (decide (k = 0))) = o := ⟨_, rfl⟩
  rw [ho1] at HH
  obtain ⟨r, hr⟩ : ∃ r, Hid (fnF p f (decide (k = 0)) (decide (∃ g ∈ p.funcs.take k, g.name = f.name)) = r) := ⟨_, rfl⟩
  rw [unhide hr]
  have hfo : Hid (fnF p f (decide (k = 0)) (decide (∃ g ∈ p.funcs.take k, g.name = f.name)) = orE o1 (orE (cdF p f) (hsF f))) := by
    unfold Hid fnF
    rw [← ho1]
    cases nmF f.name (decide (∃ g ∈ p.funcs.take k, g.name = f.name)) <;> rfl
  have hHx : Hid (HL ≤ 9223372036854775807) := by
    obtain ⟨_, _, _, e, h1, h2, _⟩ := (unhide HFN).2.2.2.2
    cases e
    exact Nat.le_trans h1 h2
  have CS := hide cs
  have HO1 := hide ho1
  clear ho1 cs hat hx hf hb1 hI hNC hNF
  go_enter Tryz.func64, Tryz.ntmps64
  go_wp2_with fail
  refine (unhide HH).mono ?_
  rintro e w1 ⟨rfl, hbh⟩
  obtain ⟨hbx, hBw, hwl⟩ := boxN (hbh.mono (by simp) : Below (w.heap.size + 1) (w.alloc (.cells #[.slice ca NC ccap, .slice (some ⟨b, off, none⟩) NF fcap] 25)) w1)
  have p0 := hbx 0 _ rfl
  have p1 := hbx 1 _ rfl
  have hB1 := hide hBw
  clear hbh hbx
  cases o1 with
  | some q =>
    obtain ⟨q1, q2⟩ := q
    obtain rfl := (unhide hr).symm.trans (unhide hfo)
    simp only [prV]
    have hq2 : (q2 != 0) = true := by rw [bne_iff_ne]; exact nm_sz_ne (unhide HO1)
    go_wp2_with fail
    go_ret2
    exact ⟨rfl, unhide hB1⟩
  | none =>
    simp only [prV]
    have hr2 := (unhide hfo).symm.trans (unhide hr)
    simp only [orE] at hr2
    have hkc : Hid (w1.cell? ⟨b, off + k * 5, none⟩ = some (.string f.name) ∧ w1.cell? ⟨b, off + k * 5 + 1, none⟩ = some (.int .i64 f.params) ∧ w1.cell? ⟨b, off + k * 5 + 2, none⟩ = some (.int .i64 f.locals) ∧ w1.cell? ⟨b, off + k * 5 + 3, none⟩ = some (.slice a1 CL c1) ∧ w1.cell? ⟨b, off + k * 5 + 4, none⟩ = some (.slice a2 HL c2)) :=
      ⟨(hBw.cell (p := ⟨b, off + k * 5, none⟩) hb).trans (unhide CS 0 _ rfl), (hBw.cell (p := ⟨b, off + k * 5 + 1, none⟩) hb).trans (unhide CS 1 _ rfl), (hBw.cell (p := ⟨b, off + k * 5 + 2, none⟩) hb).trans (unhide CS 2 _ rfl), (hBw.cell (p := ⟨b, off + k * 5 + 3, none⟩) hb).trans (unhide CS 3 _ rfl), (hBw.cell (p := ⟨b, off + k * 5 + 4, none⟩) hb).trans (unhide CS 4 _ rfl)⟩
    obtain ⟨k0, k1, k2, k3, k4⟩ := unhide hkc
    have hbr := Nat.lt_of_lt_of_le hb hBw.size
    have i0 : (0 : Int) ≤ (k : Int) := by omega
    have i1 : (k : Int) < (NF : Int) := by omega
    obtain ⟨W, hW⟩ : ∃ x, Hid (w1.alloc (.cells #[.string f.name, .int .i64 f.params, .int .i64 f.locals, .slice a1 CL c1, .slice a2 HL c2] 73) = x) := ⟨_, rfl⟩
    have hbW : Below (w1.heap.size + 1) (w1.alloc (.cells #[.string f.name, .int .i64 f.params, .int .i64 f.locals, .slice a1 CL c1, .slice a2 HL c2] 73)) W := by rw [← unhide hW]; exact Below.refl _ _
    obtain ⟨wbx, hw1W, hw1l⟩ := boxN hbW
    have F0W := wbx 0 _ rfl
    have F1W := wbx 1 _ rfl
    have F2W := wbx 2 _ rfl
    have F3W := wbx 3 _ rfl
    have F4W := wbx 4 _ rfl
    have P0W := (hw1W.cell (p := ⟨w.heap.size, 0, none⟩) hwl).trans p0
    have P1W := (hw1W.cell (p := ⟨w.heap.size, 1, none⟩) hwl).trans p1
    have HwW := hide (hBw.trans (hw1W.mono hBw.size))
    have HR2 := hide hr2
    clear hr2 hbW wbx hw1W hkc
    go_wp2_with fail
    rw [unhide hW]
    clear k0 k1 k2 k3 k4 p0 p1
    go_loopg [9, 10] CL (fun gg t9 t10 wr => ∃ (i : Nat), Hid (i + gg = CL) ∧ t9 = .int .i64 (i : Int) ∧ Hid (Below W.heap.size W wr) ∧ Hid (orE (cdG p f (f.code.drop i) i) (hsF f) = r))
    case atStart => exact ⟨0, by unfold Hid; omega, rfl, Below.refl _ _, by unfold Hid; exact unhide HR2⟩
    case round =>
      clear HR2
      obtain ⟨i, hi, rfl, hB0, hG⟩ := hrel
      have f3 := heldIn (unhide hB0) F3W
      have f4 := heldIn (unhide hB0) F4W
      by_cases hlt : i < CL
      · obtain ⟨q, hq⟩ : ∃ q, f.code[i]? = some q := ⟨_, List.getElem?_eq_getElem (by rw [unhide hCL]; exact hlt)⟩
        obtain ⟨cb, coff, _, e, _, _, hcb, ccs⟩ := unhide HCE i q hq
        cases e
        have hG2 := unhide hG
        rw [cdG_at hq] at hG2
        have hqI := unhide HII q (List.mem_of_getElem? hq)
        obtain ⟨op, a⟩ := q
        have ic0 : W.cell? ⟨cb, coff + i * 2, none⟩ = some (.int .i64 op) := ((unhide HwW).cell (p := ⟨cb, coff + i * 2, none⟩) hcb).trans (ccs 0 _ rfl)
        have ic1 : W.cell? ⟨cb, coff + i * 2 + 1, none⟩ = some (.int .i64 a) := ((unhide HwW).cell (p := ⟨cb, coff + i * 2 + 1, none⟩) hcb).trans (ccs 1 _ rfl)
        have j0 : (0 : Int) ≤ (i : Int) := by omega
        have j1 : (i : Int) < (CL : Int) := by omega
        have d0 := heldIn (unhide hB0) ic0
        have d1 := heldIn (unhide hB0) ic1
        have HK := hide (fun wx => dCheck_any wx op a hqI)
        obtain ⟨er, her⟩ : ∃ z, erN op a = z := ⟨_, rfl⟩
        have HPOS : Hid (er = 0 → kdI op = 4 → 0 ≤ a) := fun h h2 => erN_pos (her.trans h) h2
        simp only [her] at HK hG2
        have HG2 := hide hG2
        clear ccs hq hG2 her hqI
        go_wp2_with fail
        refine (unhide HK _).mono ?_
        rintro e w2 ⟨rfl, hb2⟩
        have hBc := hide ((unhide hB0).trans (hb2.mono (unhide hB0).size))
        clear hb2 d0 d1 f3 f4 HK
        by_cases he : er = 0
        · subst he
          have hG3 := unhide HG2
          rw [if_neg (by simp)] at hG3
          have HNM := hide (fun wx (hx : Below W.heap.size W wx) => names_any ((unhide HPV).below ((unhide HwW).trans (hx.mono (unhide HwW).size)) (Nat.le_refl _)) ((unhide HFN).below ((unhide HwW).trans (hx.mono (unhide HwW).size)) (Nat.le_refl _)) op a (unhide HPOS rfl))
          simp only at HNM
          obtain ⟨nv, hnv⟩ : ∃ z, nmB p f op a = z := ⟨_, rfl⟩
          rw [hnv] at hG3
          have HG3 := hide hG3
          clear hG3
          go_wp2_with fail
          refine wp_region_held_drew (S := (fun wx => Below W.heap.size W wx)) (by kernel_rfl) (Below.drawn (unhide hBc)) (fun hHeld => ?_)
          refine wpAnyH_take (i := 0) (oi := _) (v := .agg #[.slice ca NC ccap, .slice (some ⟨b, off, none⟩) NF fcap]) rfl (by kernel_rfl) (by kernel_rfl) (by kernel_rfl) (fun _ _ _ h => h) (Or.inl ⟨by rfl, (by intro w hSw; have hs0 := heldIn hSw P0W; have hs1 := heldIn hSw P1W; go_simp)⟩) (by assumption) ?_
          refine wpAnyH_take (i := 1) (oi := _) (v := .agg #[.string f.name, .int .i64 f.params, .int .i64 f.locals, .slice (some ⟨cb, coff, none⟩) CL c1, .slice a2 HL c2]) rfl (by kernel_rfl) (by kernel_rfl) (by kernel_rfl) (fun _ _ _ h => h) (Or.inl ⟨by rfl, (by intro w hSw; have ht0 := heldIn hSw F0W; have ht1 := heldIn hSw F1W; have ht2 := heldIn hSw F2W; have ht3 := heldIn hSw F3W; have ht4 := heldIn hSw F4W; go_simp)⟩) (by assumption) ?_
          go_simp
          refine wpAnyH_take (i := 2) (oi := _) (v := .pointer (some ⟨w1.heap.size, 3, none⟩)) rfl (by kernel_rfl) (by kernel_rfl) (by kernel_rfl) (fun _ _ _ h => h) (Or.inl ⟨by rfl, (by intro w hSw; go_simp)⟩) (by assumption) ?_
          refine wpAnyH_take (i := 3) (oi := _) (v := .slice (some ⟨cb, coff, none⟩) CL c1) rfl (by kernel_rfl) (by kernel_rfl) (by kernel_rfl) (fun _ _ _ h => h) (Or.inl ⟨by rfl, (by intro w hSw; have ht3 := heldIn hSw F3W; go_simp)⟩) (by assumption) ?_
          go_simp
          refine wpAnyH_take (i := 4) (oi := _) (v := .int .i64 (i : Int)) rfl (by kernel_rfl) (by kernel_rfl) (by kernel_rfl) (fun _ _ _ h => h) (Or.inl ⟨by rfl, (by intro w hSw; go_simp)⟩) (by assumption) ?_
          refine wpAnyH_take (i := 5) (oi := _) (v := .pointer (some ⟨cb, coff + i * 2, none⟩)) rfl (by kernel_rfl) (by kernel_rfl) (by kernel_rfl) (fun _ _ _ h => h) (Or.inl ⟨by rfl, (by intro w hSw; go_simp)⟩) (by assumption) ?_
          go_simp
          refine wpAnyH_take (i := 6) (oi := _) (v := .agg #[.int .i64 op, .int .i64 a]) rfl (by kernel_rfl) (by kernel_rfl) (by kernel_rfl) (fun _ _ _ h => h) (Or.inl ⟨by rfl, (by intro w hSw; have hs0 := heldIn hSw ic0; have hs1 := heldIn hSw ic1; go_simp)⟩) (by assumption) ?_
          go_simp
          refine wpAnyH_ready (rs := [7]) (by kernel_rfl) (by simp) ?_
          refine AllReadyH.cons (o := _) rfl (fun K hK => ?_) AllReadyH.nil
          go_simp
          refine (unhide HNM _ (Below.drawn (unhide hBc))).mono ?_
          rintro e w3 ⟨rfl, hb3⟩
          have bb3 : Below W.heap.size W w3 := (unhide hBc).trans ((fun k => (⟨k.os, k.tape, k.output, k.size, k.block⟩ : Below w2.heap.size w2 w3)) hb3 |>.mono (unhide hBc).size)
          rw [hnv]
          go_simp
          refine hK.out _ _ bb3 (fun hHeld1 => ?_)
          clear hK K
          go_simp
          refine wpAnyH_take (i := 8) (oi := _) (v := .bool (!nv)) rfl (by kernel_rfl) (by kernel_rfl) (by kernel_rfl) (fun _ _ _ h => h) (Or.inl ⟨by rfl, (by intro w hSw; go_simp)⟩) (by assumption) ?_
          refine wpAnyH_done (by kernel_rfl) ?_ _
          clear hHeld hHeld1
          have HB3 := hide bb3
          clear hb3 bb3
          cases nv
          · obtain rfl : some ((i : Int), 8) = r := by rw [← unhide HG3]; rfl
            go_wp2_with fail
            go_ret2
            exact ⟨rfl, (unhide HwW).trans ((unhide HB3).mono (unhide HwW).size)⟩
          · go_wp2_with fail
            go_roundg (gk - 1)
            case measure => have := unhide hi; omega
            case rel => exact ⟨i + 1, by have := unhide hi; unfold Hid; omega, by go_num, HB3, by have := unhide HG3; simpa [Hid] using this⟩
        · have ke : (er != 0) = true := by rw [bne_iff_ne]; exact he
          obtain rfl : some ((i : Int), er) = r := by rw [← unhide HG2, if_pos he]; rfl
          go_wp2_with fail
          go_ret2
          exact ⟨rfl, (unhide HwW).trans ((unhide hBc).mono (unhide HwW).size)⟩
      · have hiL : CL = i := by have := unhide hi; omega
        subst hiL
        have hG2 := unhide hG
        rw [List.drop_eq_nil_of_le (by rw [unhide hCL]; exact Nat.le_refl _)] at hG2
        simp only [cdG, orE] at hG2
        unfold hsF at hG2
        rw [unhide hHL, unhide hCL] at hG2
        by_cases h32 : HL > 32
        · rw [if_pos h32] at hG2
          subst hG2
          have k32 : (32 : Int) < (HL : Int) := by omega
          go_wp2_with fail
          go_ret2
          exact ⟨rfl, (unhide HwW).trans ((unhide hB0).mono (unhide HwW).size)⟩
        · rw [if_neg h32] at hG2
          have k32 : decide ((32 : Int) < (HL : Int)) = false := decide_eq_false (by omega)
          have HG2 := hide hG2
          clear hG2
          go_wp2_with fail
          go_loopg [11] HL (fun gg t11 wr => ∃ (i : Nat), Hid (i + gg = HL) ∧ t11 = .int .i64 (i : Int) ∧ Hid (Below W.heap.size W wr) ∧ Hid (∀ (j : Nat) (g : Hd), j < i → f.hs[j]? = some g → fitB g CL = true))
          case atStart => exact ⟨0, by unfold Hid; omega, rfl, hB0, by unfold Hid; intro j g hj; omega⟩
          case round =>
            clear hB0 hi f3 f4
            obtain ⟨i, hi, rfl, hBc, hM⟩ := hrel
            have f3 := heldIn (unhide hBc) F3W
            have f4 := heldIn (unhide hBc) F4W
            by_cases hlt2 : i < HL
            · obtain ⟨h, hh⟩ : ∃ h, f.hs[i]? = some h := ⟨_, List.getElem?_eq_getElem (by rw [unhide hHL]; exact hlt2)⟩
              obtain ⟨hb2, hoff, _, e, _, _, hhb, hcs⟩ := unhide HHE i h hh
              cases e
              have ic0 : W.cell? ⟨hb2, hoff + i * 4, none⟩ = some (.int .i64 h.frm) := ((unhide HwW).cell (p := ⟨hb2, hoff + i * 4, none⟩) hhb).trans (hcs 0 _ rfl)
              have ic1 : W.cell? ⟨hb2, hoff + i * 4 + 1, none⟩ = some (.int .i64 h.to) := ((unhide HwW).cell (p := ⟨hb2, hoff + i * 4 + 1, none⟩) hhb).trans (hcs 1 _ rfl)
              have ic2 : W.cell? ⟨hb2, hoff + i * 4 + 2, none⟩ = some (.int .i64 h.target) := ((unhide HwW).cell (p := ⟨hb2, hoff + i * 4 + 2, none⟩) hhb).trans (hcs 2 _ rfl)
              have ic3 : W.cell? ⟨hb2, hoff + i * 4 + 3, none⟩ = some (.int .i64 h.height) := ((unhide HwW).cell (p := ⟨hb2, hoff + i * 4 + 3, none⟩) hhb).trans (hcs 3 _ rfl)
              have j0 : (0 : Int) ≤ (i : Int) := by omega
              have j1 : (i : Int) < (HL : Int) := by omega
              have HNM := hide (fun wx (hx : Below W.heap.size W wx) => handler_any h CL wx)
              obtain ⟨nv, hnv⟩ : ∃ z, fitB h CL = z := ⟨_, rfl⟩
              have HHH := hide hh
              clear hcs hh
              go_wp2_with fail
              refine wp_region_held_drew (S := (fun wx => Below W.heap.size W wx)) (by kernel_rfl) (Below.drawn (unhide hBc)) (fun hHeld => ?_)
              refine wpAnyH_take (i := 0) (oi := _) (v := .pointer (some ⟨w1.heap.size, 4, none⟩)) rfl (by kernel_rfl) (by kernel_rfl) (by kernel_rfl) (fun _ _ _ h => h) (Or.inl ⟨by rfl, (by intro w hSw; go_simp)⟩) (by assumption) ?_
              refine wpAnyH_take (i := 1) (oi := _) (v := .slice (some ⟨hb2, hoff, none⟩) HL c2) rfl (by kernel_rfl) (by kernel_rfl) (by kernel_rfl) (fun _ _ _ h => h) (Or.inl ⟨by rfl, (by intro w hSw; have ht4 := heldIn hSw F4W; go_simp)⟩) (by assumption) ?_
              go_simp
              refine wpAnyH_take (i := 2) (oi := _) (v := .int .i64 (i : Int)) rfl (by kernel_rfl) (by kernel_rfl) (by kernel_rfl) (fun _ _ _ h => h) (Or.inl ⟨by rfl, (by intro w hSw; go_simp)⟩) (by assumption) ?_
              refine wpAnyH_take (i := 3) (oi := _) (v := .pointer (some ⟨hb2, hoff + i * 4, none⟩)) rfl (by kernel_rfl) (by kernel_rfl) (by kernel_rfl) (fun _ _ _ h => h) (Or.inl ⟨by rfl, (by intro w hSw; go_simp)⟩) (by assumption) ?_
              go_simp
              refine wpAnyH_take (i := 4) (oi := _) (v := .agg #[.int .i64 h.frm, .int .i64 h.to, .int .i64 h.target, .int .i64 h.height]) rfl (by kernel_rfl) (by kernel_rfl) (by kernel_rfl) (fun _ _ _ h => h) (Or.inl ⟨by rfl, (by intro w hSw; have hs0 := heldIn hSw ic0; have hs1 := heldIn hSw ic1; have hs2 := heldIn hSw ic2; have hs3 := heldIn hSw ic3; go_simp)⟩) (by assumption) ?_
              go_simp
              refine wpAnyH_take (i := 5) (oi := _) (v := .pointer (some ⟨w1.heap.size, 3, none⟩)) rfl (by kernel_rfl) (by kernel_rfl) (by kernel_rfl) (fun _ _ _ h => h) (Or.inl ⟨by rfl, (by intro w hSw; go_simp)⟩) (by assumption) ?_
              refine wpAnyH_take (i := 6) (oi := _) (v := .slice a1 CL c1) rfl (by kernel_rfl) (by kernel_rfl) (by kernel_rfl) (fun _ _ _ h => h) (Or.inl ⟨by rfl, (by intro w hSw; have ht3 := heldIn hSw F3W; go_simp)⟩) (by assumption) ?_
              go_simp
              refine wpAnyH_take (i := 7) (oi := _) (v := .int .i64 (CL : Int)) rfl (by kernel_rfl) (by kernel_rfl) (by kernel_rfl) (fun _ _ _ h => h) (Or.inl ⟨by rfl, (by intro w hSw; go_simp)⟩) (by assumption) ?_
              go_simp
              refine wpAnyH_ready (rs := [8]) (by kernel_rfl) (by simp) ?_
              refine AllReadyH.cons (o := _) rfl (fun K hK => ?_) AllReadyH.nil
              go_simp
              refine (unhide HNM _ (Below.drawn (unhide hBc))).mono ?_
              rintro e w3 ⟨rfl, hb3⟩
              have bb3 : Below W.heap.size W w3 := (unhide hBc).trans ((fun k => (⟨k.os, k.tape, k.output, k.size, k.block⟩ : Below wr.heap.size wr w3)) hb3 |>.mono (unhide hBc).size)
              rw [hnv]
              go_simp
              refine hK.out _ _ bb3 (fun hHeld1 => ?_)
              clear hK K
              go_simp
              refine wpAnyH_take (i := 9) (oi := _) (v := .bool (!nv)) rfl (by kernel_rfl) (by kernel_rfl) (by kernel_rfl) (fun _ _ _ h => h) (Or.inl ⟨by rfl, (by intro w hSw; go_simp)⟩) (by assumption) ?_
              refine wpAnyH_done (by kernel_rfl) ?_ _
              clear hHeld hHeld1
              have HB3 := hide bb3
              clear hb3 bb3
              cases nv
              · obtain rfl : some ((i : Int), 8) = r := by
                  rw [← unhide HG2, hsG_bad (unhide HHH) hnv (unhide hM)]
                  simp
                go_wp2_with fail
                go_ret2
                exact ⟨rfl, (unhide HwW).trans ((unhide HB3).mono (unhide HwW).size)⟩
              · go_wp2_with fail
                go_roundg (gk - 1)
                case measure => have := unhide hi; omega
                case rel => exact ⟨i + 1, by have := unhide hi; unfold Hid; omega, by have := unhide hHx; go_num, HB3, by
                  unfold Hid
                  intro j g hj hg
                  by_cases q : j = i
                  · subst q; rw [unhide HHH] at hg; cases hg; exact hnv
                  · exact unhide hM j g (by omega) hg⟩
            · have hiL : i = HL := by have := unhide hi; omega
              have j1 : decide ((i : Int) < (HL : Int)) = false := decide_eq_false (by omega)
              obtain rfl : none = r := by
                rw [← unhide HG2]
                exact (hsG_ok (fun j g hg => unhide hM j g (by have := (List.getElem?_eq_some_iff.1 hg).1; rw [unhide hHL] at this; omega) hg)).symm
              go_wp2_with fail
              go_ret2
              exact ⟨rfl, (unhide HwW).trans ((unhide hBc).mono (unhide HwW).size)⟩
end

set_option linter.unusedVariables false
set_option linter.unusedSimpArgs false
noncomputable section
theorem where_any (a b : Int) (w : World) : Calls Tryz.prog 62 #[.int .i64 a, .int .i64 b] w fun e w' => e = .returned (.agg #[.int .i64 a, .int .i64 b]) ∧ Below w.heap.size w w' := by
  go_enter Tryz.func62, Tryz.ntmps62
  go_wp2
  refine bodyPost_ret (v := .agg #[.int .i64 a, .int .i64 b]) ?_ rfl ?_
  · rw [results_cell_one rfl]
    go_simp
  · exact ⟨rfl, (Below.refl _ _).alloc (Nat.le_refl _) _⟩
theorem rcsG_con {l : List Cn} {i : Nat} {c : Cn} (h : l[i]? = some c) : csG (l.take i) (l.drop i) = if conE c (l.take i) ≠ 0 then some ((i : Int), conE c (l.take i)) else csG (l.take (i + 1)) (l.drop (i + 1)) := by
  rw [csG_at h]
  unfold conE
  by_cases h1 : rfB c = false
  · simp [h1]
  · by_cases h2 : c.text.size > 4096
    · simp [h1, h2]
    · by_cases h3 : c ∈ l.take i
      · simp [h1, h2, h3]
      · simp [h1, h2, h3]
theorem rhsG_ne {n : Int} : ∀ {l : List Hd} {k : Nat} {a y : Int}, hsG n l k = some (a, y) → y ≠ 0
  | [], _, _, _, h => by cases h
  | g :: r, k, a, y, h => by
    rw [hsG] at h
    split at h
    · exact rhsG_ne h
    · simp only [Option.some.injEq, Prod.mk.injEq] at h; omega
theorem rcdG_ne {p : Pg} {f : Fc} : ∀ {l : List (Int × Int)} {k : Nat} {a y : Int}, cdG p f l k = some (a, y) → y ≠ 0
  | [], _, _, _, h => by cases h
  | (op, x) :: r, k, a, y, h => by
    rw [cdG] at h
    split at h
    · rename_i hne; simp only [Option.some.injEq, Prod.mk.injEq] at h; rw [← h.2]; exact hne
    · split at h
      · simp only [Option.some.injEq, Prod.mk.injEq] at h; omega
      · exact rcdG_ne h
theorem rfnF_ne {p : Pg} {f : Fc} {m t : Bool} {a y : Int} (h : fnF p f m t = some (a, y)) : y ≠ 0 := by
  unfold fnF at h
  cases h1 : nmF f.name t with
  | some e => exact nm_sz_ne (f := f) (m := m) (s := f.name) (t := t) (q1 := a) (by rw [h1] at h ⊢; exact h)
  | none =>
    rw [h1] at h
    simp only [orE] at h
    cases h2 : szF f m with
    | some e => exact nm_sz_ne (f := f) (m := m) (s := f.name) (t := t) (q1 := a) (by rw [h2] at h; rw [h1, h2]; exact h)
    | none =>
      rw [h2] at h
      cases h3 : cdF p f with
      | some e => rw [h3] at h; exact rcdG_ne (h3.trans h)
      | none =>
        rw [h3] at h
        simp only at h
        unfold hsF at h
        split at h
        · simp only [Option.some.injEq, Prod.mk.injEq] at h; omega
        · exact rhsG_ne h
set_option maxRecDepth 100000 in
set_option maxHeartbeats 12800000 in
theorem rCheck_any {w : World} {pv : Value} {p : Pg} (hp : PgV w pv p) (hC : p.consts.length ≤ 9000000000000) (hok : ∀ (i : Nat) (f : Fc), p.funcs[i]? = some f → f.code.length ≤ 9000000000000 ∧ f.name.size ≤ 9223372036854775807 ∧ ∀ q ∈ f.code, I64 q.2) : Calls Tryz.prog 30 #[pv] w fun e w' => e = .returned (rsV (ckF p)) ∧ Below w.heap.size w w' := by
  have HPV := hide hp
  have HOK := hide hok
  obtain ⟨cv, fv, rfl, hc, hf⟩ := hp
  have HCX := hide hc
  obtain ⟨_, ca, ccap, rfl, _, _, _⟩ := hc
  obtain ⟨fa, fcap, rfl, hNc, hNm, _⟩ := hf.at
  have HWH := hide where_any
  obtain ⟨NC, hNC⟩ : ∃ n, Hid (p.consts.length = n) := ⟨_, rfl⟩
  obtain ⟨NF, hNF⟩ : ∃ n, Hid (p.funcs.length = n) := ⟨_, rfl⟩
  rw [unhide hNC, unhide hNF] at HPV
  have HCO := hide (fun wx (hb : Below w.heap.size w wx) (i : Nat) (c : Cn) (hi : p.consts[i]? = some c) => constant_any ((unhide HCX).below hb (Nat.le_refl _)) hi hC)
  have HFU := hide (fun wx (hb : Below w.heap.size w wx) (k : Nat) (f : Fc) (hk : p.funcs[k]? = some f) => rfunction_any ((unhide HPV).below hb (Nat.le_refl _)) hk (unhide HOK k f hk).2.1 (unhide HOK k f hk).1 (unhide HOK k f hk).2.2)
  rw [unhide hNC] at hC HCO
  rw [unhide hNF] at hNc
  rw [unhide hNC, unhide hNF]
  have hNx : NF ≤ 9223372036854775807 := Nat.le_trans hNc hNm
  obtain ⟨t1, t2, t3, t4⟩ := two_boxes w #[.slice ca NC ccap, .slice fa NF fcap] #[.int .i64 0, .int .i64 0] 25 46
  have HT := hide (And.intro t1 (And.intro t2 (And.intro t3 t4)))
  have hnw := heap_alloc_new (w.alloc (.cells #[.slice ca NC ccap, .slice fa NF fcap] 25)) (.cells #[.int .i64 0, .int .i64 0] 46)
  simp only [World.size_alloc] at hnw
  have HNW := hide hnw
  obtain ⟨r, hr⟩ : ∃ r, Hid (ckF p = r) := ⟨_, rfl⟩
  rw [unhide hr]
  have hr' := unhide hr
  unfold ckF csF at hr'
  rw [unhide hNC, unhide hNF] at hr'
  have hB00 : Hid (Below (w.heap.size + 2) ((w.alloc (.cells #[.slice ca NC ccap, .slice fa NF fcap] 25)).alloc (.cells #[.int .i64 0, .int .i64 0] 46)) ((w.alloc (.cells #[.slice ca NC ccap, .slice fa NF fcap] 25)).alloc (.cells #[.int .i64 0, .int .i64 0] 46))) := Below.refl _ _
  by_cases h512 : NC > 512
  · rw [if_pos h512] at hr'
    obtain rfl : r = some (-1, 512, 5) := by rw [← hr']; rfl
    have k5 : (512 : Int) < (NC : Int) := by omega
    clear t1 t2 t3 t4 hnw hr'
    go_enter Tryz.func30, Tryz.ntmps30
    go_wp2_with fail
    refine (unhide HWH _ _ _).mono ?_
    rintro e w5 ⟨rfl, hb5⟩
    have b5 := (unhide hB00).trans (hb5.mono (by first | (rw [(unhide HT).2.2.2]; exact Nat.le_refl _) | (have := (unhide hB00).size; rw [(unhide HT).2.2.2] at this; exact this)))
    have hbl := (b5.block (w.heap.size + 1) (by omega)).trans (unhide HNW)
    have q0 : w5.cell? ⟨w.heap.size + 1, 0, none⟩ = some (.int .i64 0) := by unfold World.cell?; simp only [hbl]; rfl
    have q1 : w5.cell? ⟨w.heap.size + 1, 1, none⟩ = some (.int .i64 0) := by unfold World.cell?; simp only [hbl]; rfl
    have z0 : w5.frozen? ⟨w.heap.size + 1, 0, none⟩ = false := by unfold World.frozen?; simp only [hbl]; rfl
    have z1 : w5.frozen? ⟨w.heap.size + 1, 1, none⟩ = false := by unfold World.frozen?; simp only [hbl]; rfl
    have hwl := World.block_lt_of_cell? _ _ q0
    have hB5 := hide ((unhide HT).2.2.1.trans (b5.mono (by omega)))
    clear hb5 b5 hbl
    go_wp2_with fail
    refine bodyPost_ret (v := .tuple #[.agg #[.int .i64 (-1), .int .i64 (512)], .int .i64 (5)]) ?_ rfl ?_
    · rw [results_cell_tmp rfl]
      go_simp
    · exact ⟨rfl, (unhide hB5).trans (Fr.below (S := fun k => k = w.heap.size + 1) (((Fr.refl (fun k => k = w.heap.size + 1) w5).setCell ⟨w.heap.size + 1, 0, none⟩ (.inr rfl) _).setCell ⟨w.heap.size + 1, 1, none⟩ (.inr rfl) _) (by have : w.heap.size + 1 < w5.heap.size := hwl; omega) (fun k hk e => by omega))⟩
  · rw [if_neg h512] at hr'
    have k5 : decide ((512 : Int) < (NC : Int)) = false := decide_eq_false (by omega)
    have HR := hide hr'
    clear t1 t2 t3 t4 hnw hr' hr hf hok
    go_enter Tryz.func30, Tryz.ntmps30
    go_wp2_with fail
    go_loopg [4, 5] NC (fun gg t4 t5 wr => ∃ (i : Nat), Hid (i + gg = NC) ∧ t4 = .int .i64 (i : Int) ∧ Hid (Below (w.heap.size + 2) ((w.alloc (.cells #[.slice ca NC ccap, .slice fa NF fcap] 25)).alloc (.cells #[.int .i64 0, .int .i64 0] 46)) wr) ∧ Hid (csG (p.consts.take i) (p.consts.drop i) = csG [] p.consts))
    case atStart => exact ⟨0, by unfold Hid; omega, rfl, hB00, by unfold Hid; simp⟩
    case round =>
      obtain ⟨i, hi, rfl, hB0, hG⟩ := hrel
      have p0 := ((unhide hB0).cell (p := ⟨w.heap.size, 0, none⟩) (by simp)).trans ((unhide HT).1 0)
      have p1 := ((unhide hB0).cell (p := ⟨w.heap.size, 1, none⟩) (by simp)).trans ((unhide HT).1 1)
      simp only [List.getElem?_toArray, List.getElem?_cons_zero, List.getElem?_cons_succ] at p0 p1
      have hBw := hide ((unhide HT).2.2.1.trans ((unhide hB0).mono (by omega)))
      by_cases hlt : i < NC
      · obtain ⟨c, hc⟩ : ∃ c, p.consts[i]? = some c := ⟨_, List.getElem?_eq_getElem (by rw [unhide hNC]; exact hlt)⟩
        have hG2 := unhide hG
        rw [rcsG_con hc] at hG2
        have HCi := hide (fun wx (hb : Below w.heap.size w wx) => unhide HCO wx hb i c hc)
        obtain ⟨er, her⟩ : ∃ z, conE c (p.consts.take i) = z := ⟨_, rfl⟩
        rw [her] at HCi hG2
        have HG2 := hide hG2
        have j1 : (i : Int) < (NC : Int) := by omega
        clear hG2 hc her
        go_wp2_with fail
        refine (unhide HCi _ (unhide hBw)).mono ?_
        rintro e w3 ⟨rfl, hb3⟩
        have hsq := (unhide hB0).size
        rw [(unhide HT).2.2.2] at hsq
        have hB3 := hide ((unhide hB0).trans (hb3.mono hsq))
        clear hb3 p0 p1 HCi hsq
        by_cases he : er = 0
        · subst he
          have hG3 := unhide HG2
          rw [if_neg (by simp)] at hG3
          have HG3 := hide hG3
          clear hG3
          go_wp2_with fail
          go_roundg (gk - 1)
          case measure => have := unhide hi; omega
          case rel => exact ⟨i + 1, by have := unhide hi; unfold Hid; omega, by go_num, hB3, HG3⟩
        · have ke : (er != 0) = true := by rw [bne_iff_ne]; exact he
          have hG3 := unhide HG2
          rw [if_pos he] at hG3
          have hR2 := unhide HR
          rw [← hG3] at hR2
          obtain rfl : some (-1, (i : Int), er) = r := by rw [← hR2]; rfl
          clear hG3 hR2
          go_wp2_with fail
          refine (unhide HWH _ _ _).mono ?_
          rintro e w5 ⟨rfl, hb5⟩
          have b5 := (unhide hB3).trans (hb5.mono (by first | (rw [(unhide HT).2.2.2]; exact Nat.le_refl _) | (have := (unhide hB3).size; rw [(unhide HT).2.2.2] at this; exact this)))
          have hbl := (b5.block (w.heap.size + 1) (by omega)).trans (unhide HNW)
          have q0 : w5.cell? ⟨w.heap.size + 1, 0, none⟩ = some (.int .i64 0) := by unfold World.cell?; simp only [hbl]; rfl
          have q1 : w5.cell? ⟨w.heap.size + 1, 1, none⟩ = some (.int .i64 0) := by unfold World.cell?; simp only [hbl]; rfl
          have z0 : w5.frozen? ⟨w.heap.size + 1, 0, none⟩ = false := by unfold World.frozen?; simp only [hbl]; rfl
          have z1 : w5.frozen? ⟨w.heap.size + 1, 1, none⟩ = false := by unfold World.frozen?; simp only [hbl]; rfl
          have hwl := World.block_lt_of_cell? _ _ q0
          have hB5 := hide ((unhide HT).2.2.1.trans (b5.mono (by omega)))
          clear hb5 b5 hbl
          go_wp2_with fail
          refine bodyPost_ret (v := .tuple #[.agg #[.int .i64 (-1), .int .i64 ((i : Int))], .int .i64 (er)]) ?_ rfl ?_
          · rw [results_cell_tmp rfl]
            go_simp
          · exact ⟨rfl, (unhide hB5).trans (Fr.below (S := fun k => k = w.heap.size + 1) (((Fr.refl (fun k => k = w.heap.size + 1) w5).setCell ⟨w.heap.size + 1, 0, none⟩ (.inr rfl) _).setCell ⟨w.heap.size + 1, 1, none⟩ (.inr rfl) _) (by have : w.heap.size + 1 < w5.heap.size := hwl; omega) (fun k hk e => by omega))⟩
      · have hiL : i = NC := by have := unhide hi; omega
        have j1 : decide ((i : Int) < (NC : Int)) = false := decide_eq_false (by omega)
        have hG2 := unhide hG
        rw [List.drop_eq_nil_of_le (by rw [unhide hNC]; omega)] at hG2
        have hR2 := unhide HR
        rw [← hG2] at hR2
        simp only [csG] at hR2
        clear hiL hG2
        by_cases h0 : NF = 0
        · rw [if_pos h0] at hR2
          subst hR2
          subst h0
          go_wp2_with fail
          refine (unhide HWH _ _ _).mono ?_
          rintro e w5 ⟨rfl, hb5⟩
          have b5 := (unhide hB0).trans (hb5.mono (by first | (rw [(unhide HT).2.2.2]; exact Nat.le_refl _) | (have := (unhide hB0).size; rw [(unhide HT).2.2.2] at this; exact this)))
          have hbl := (b5.block (w.heap.size + 1) (by omega)).trans (unhide HNW)
          have q0 : w5.cell? ⟨w.heap.size + 1, 0, none⟩ = some (.int .i64 0) := by unfold World.cell?; simp only [hbl]; rfl
          have q1 : w5.cell? ⟨w.heap.size + 1, 1, none⟩ = some (.int .i64 0) := by unfold World.cell?; simp only [hbl]; rfl
          have z0 : w5.frozen? ⟨w.heap.size + 1, 0, none⟩ = false := by unfold World.frozen?; simp only [hbl]; rfl
          have z1 : w5.frozen? ⟨w.heap.size + 1, 1, none⟩ = false := by unfold World.frozen?; simp only [hbl]; rfl
          have hwl := World.block_lt_of_cell? _ _ q0
          have hB5 := hide ((unhide HT).2.2.1.trans (b5.mono (by omega)))
          clear hb5 b5 hbl
          go_wp2_with fail
          refine bodyPost_ret (v := .tuple #[.agg #[.int .i64 (0), .int .i64 (0)], .int .i64 (2)]) ?_ rfl ?_
          · rw [results_cell_tmp rfl]
            go_simp
          · exact ⟨rfl, (unhide hB5).trans (Fr.below (S := fun k => k = w.heap.size + 1) (((Fr.refl (fun k => k = w.heap.size + 1) w5).setCell ⟨w.heap.size + 1, 0, none⟩ (.inr rfl) _).setCell ⟨w.heap.size + 1, 1, none⟩ (.inr rfl) _) (by have : w.heap.size + 1 < w5.heap.size := hwl; omega) (fun k hk e => by omega))⟩
        · rw [if_neg h0] at hR2
          have k0 : ((NF : Int) == 0) = false := beq_eq_false_iff_ne.2 (by omega)
          by_cases h1 : NF > 128
          · rw [if_pos h1] at hR2
            subst hR2
            have k1 : (128 : Int) < (NF : Int) := by omega
            go_wp2_with fail
            refine (unhide HWH _ _ _).mono ?_
            rintro e w5 ⟨rfl, hb5⟩
            have b5 := (unhide hB0).trans (hb5.mono (by first | (rw [(unhide HT).2.2.2]; exact Nat.le_refl _) | (have := (unhide hB0).size; rw [(unhide HT).2.2.2] at this; exact this)))
            have hbl := (b5.block (w.heap.size + 1) (by omega)).trans (unhide HNW)
            have q0 : w5.cell? ⟨w.heap.size + 1, 0, none⟩ = some (.int .i64 0) := by unfold World.cell?; simp only [hbl]; rfl
            have q1 : w5.cell? ⟨w.heap.size + 1, 1, none⟩ = some (.int .i64 0) := by unfold World.cell?; simp only [hbl]; rfl
            have z0 : w5.frozen? ⟨w.heap.size + 1, 0, none⟩ = false := by unfold World.frozen?; simp only [hbl]; rfl
            have z1 : w5.frozen? ⟨w.heap.size + 1, 1, none⟩ = false := by unfold World.frozen?; simp only [hbl]; rfl
            have hwl := World.block_lt_of_cell? _ _ q0
            have hB5 := hide ((unhide HT).2.2.1.trans (b5.mono (by omega)))
            clear hb5 b5 hbl
            go_wp2_with fail
            refine bodyPost_ret (v := .tuple #[.agg #[.int .i64 (128), .int .i64 (0)], .int .i64 (5)]) ?_ rfl ?_
            · rw [results_cell_tmp rfl]
              go_simp
            · exact ⟨rfl, (unhide hB5).trans (Fr.below (S := fun k => k = w.heap.size + 1) (((Fr.refl (fun k => k = w.heap.size + 1) w5).setCell ⟨w.heap.size + 1, 0, none⟩ (.inr rfl) _).setCell ⟨w.heap.size + 1, 1, none⟩ (.inr rfl) _) (by have : w.heap.size + 1 < w5.heap.size := hwl; omega) (fun k hk e => by omega))⟩
          · rw [if_neg h1] at hR2
            have k1 : decide ((128 : Int) < (NF : Int)) = false := decide_eq_false (by omega)
            have HR2 := hide hR2
            clear hR2
            go_wp2_with fail
            go_loopg [6, 7, 8] NF (fun gg t6 t7 t8 wr => ∃ (k : Nat), Hid (k + gg = NF) ∧ t6 = .int .i64 (k : Int) ∧ Hid (Below (w.heap.size + 2) ((w.alloc (.cells #[.slice ca NC ccap, .slice fa NF fcap] 25)).alloc (.cells #[.int .i64 0, .int .i64 0] 46)) wr) ∧ Hid (fsG p (p.funcs.take k) (p.funcs.drop k) = r))
            case atStart => exact ⟨0, by unfold Hid; omega, rfl, hB0, by unfold Hid; simpa using unhide HR2⟩
            case round =>
              clear hB0 p0 p1 hBw hi hG
              obtain ⟨k, hk, rfl, hB0, hG⟩ := hrel
              have p0 := ((unhide hB0).cell (p := ⟨w.heap.size, 0, none⟩) (by simp)).trans ((unhide HT).1 0)
              have p1 := ((unhide hB0).cell (p := ⟨w.heap.size, 1, none⟩) (by simp)).trans ((unhide HT).1 1)
              simp only [List.getElem?_toArray, List.getElem?_cons_zero, List.getElem?_cons_succ] at p0 p1
              have hBw := hide ((unhide HT).2.2.1.trans ((unhide hB0).mono (by omega)))
              by_cases hlt2 : k < NF
              · obtain ⟨f, hf⟩ : ∃ f, p.funcs[k]? = some f := ⟨_, List.getElem?_eq_getElem (by rw [unhide hNF]; exact hlt2)⟩
                have hG2 := unhide hG
                rw [fsG_at hf] at hG2
                have HFi := hide (fun wx (hb : Below w.heap.size w wx) => unhide HFU wx hb k f hf)
                obtain ⟨o, ho⟩ : ∃ z, fnF p f (decide (k = 0)) (decide (∃ g ∈ p.funcs.take k, g.name = f.name)) = z := ⟨_, rfl⟩
                rw [ho] at HFi hG2
                have HO := hide ho
                have HG2 := hide hG2
                have j2 : (k : Int) < (NF : Int) := by omega
                clear hG2 hf ho
                go_wp2_with fail
                refine (unhide HFi _ (unhide hBw)).mono ?_
                rintro e w3 ⟨rfl, hb3⟩
                have hsq := (unhide hB0).size
                rw [(unhide HT).2.2.2] at hsq
                have hB3 := hide ((unhide hB0).trans (hb3.mono hsq))
                clear hb3 p0 p1 HFi hsq
                cases o with
                | none =>
                  simp only [prV]
                  go_wp2_with fail
                  go_roundg (gk - 1)
                  case measure => have := unhide hk; omega
                  case rel => exact ⟨k + 1, by have := unhide hk; unfold Hid; omega, by go_num, hB3, HG2⟩
                | some q =>
                  obtain ⟨a, y⟩ := q
                  have hy := rfnF_ne (unhide HO)
                  have ke : (y != 0) = true := by rw [bne_iff_ne]; exact hy
                  obtain rfl : some ((k : Int), a, y) = r := unhide HG2
                  simp only [prV]
                  clear hy
                  go_wp2_with fail
                  refine (unhide HWH _ _ _).mono ?_
                  rintro e w5 ⟨rfl, hb5⟩
                  have b5 := (unhide hB3).trans (hb5.mono (by first | (rw [(unhide HT).2.2.2]; exact Nat.le_refl _) | (have := (unhide hB3).size; rw [(unhide HT).2.2.2] at this; exact this)))
                  have hbl := (b5.block (w.heap.size + 1) (by omega)).trans (unhide HNW)
                  have q0 : w5.cell? ⟨w.heap.size + 1, 0, none⟩ = some (.int .i64 0) := by unfold World.cell?; simp only [hbl]; rfl
                  have q1 : w5.cell? ⟨w.heap.size + 1, 1, none⟩ = some (.int .i64 0) := by unfold World.cell?; simp only [hbl]; rfl
                  have z0 : w5.frozen? ⟨w.heap.size + 1, 0, none⟩ = false := by unfold World.frozen?; simp only [hbl]; rfl
                  have z1 : w5.frozen? ⟨w.heap.size + 1, 1, none⟩ = false := by unfold World.frozen?; simp only [hbl]; rfl
                  have hwl := World.block_lt_of_cell? _ _ q0
                  have hB5 := hide ((unhide HT).2.2.1.trans (b5.mono (by omega)))
                  clear hb5 b5 hbl
                  go_wp2_with fail
                  refine bodyPost_ret (v := .tuple #[.agg #[.int .i64 ((k : Int)), .int .i64 (a)], .int .i64 (y)]) ?_ rfl ?_
                  · rw [results_cell_tmp rfl]
                    go_simp
                  · exact ⟨rfl, (unhide hB5).trans (Fr.below (S := fun k => k = w.heap.size + 1) (((Fr.refl (fun k => k = w.heap.size + 1) w5).setCell ⟨w.heap.size + 1, 0, none⟩ (.inr rfl) _).setCell ⟨w.heap.size + 1, 1, none⟩ (.inr rfl) _) (by have : w.heap.size + 1 < w5.heap.size := hwl; omega) (fun k hk e => by omega))⟩
              · have hiL2 : k = NF := by have := unhide hk; omega
                have j2 : decide ((k : Int) < (NF : Int)) = false := decide_eq_false (by omega)
                obtain rfl : none = r := by
                  rw [← unhide hG, List.drop_eq_nil_of_le (by rw [unhide hNF]; omega)]
                  rfl
                clear hiL2
                go_wp2_with fail
                refine (unhide HWH _ _ _).mono ?_
                rintro e w5 ⟨rfl, hb5⟩
                have b5 := (unhide hB0).trans (hb5.mono (by first | (rw [(unhide HT).2.2.2]; exact Nat.le_refl _) | (have := (unhide hB0).size; rw [(unhide HT).2.2.2] at this; exact this)))
                have hbl := (b5.block (w.heap.size + 1) (by omega)).trans (unhide HNW)
                have q0 : w5.cell? ⟨w.heap.size + 1, 0, none⟩ = some (.int .i64 0) := by unfold World.cell?; simp only [hbl]; rfl
                have q1 : w5.cell? ⟨w.heap.size + 1, 1, none⟩ = some (.int .i64 0) := by unfold World.cell?; simp only [hbl]; rfl
                have z0 : w5.frozen? ⟨w.heap.size + 1, 0, none⟩ = false := by unfold World.frozen?; simp only [hbl]; rfl
                have z1 : w5.frozen? ⟨w.heap.size + 1, 1, none⟩ = false := by unfold World.frozen?; simp only [hbl]; rfl
                have hwl := World.block_lt_of_cell? _ _ q0
                have hB5 := hide ((unhide HT).2.2.1.trans (b5.mono (by omega)))
                clear hb5 b5 hbl
                go_wp2_with fail
                refine bodyPost_ret (v := .tuple #[.agg #[.int .i64 (0), .int .i64 (0)], .int .i64 (0)]) ?_ rfl ?_
                · rw [results_cell_tmp rfl]
                  go_simp
                · exact ⟨rfl, (unhide hB5).trans (Fr.below (S := fun k => k = w.heap.size + 1) (((Fr.refl (fun k => k = w.heap.size + 1) w5).setCell ⟨w.heap.size + 1, 0, none⟩ (.inr rfl) _).setCell ⟨w.heap.size + 1, 1, none⟩ (.inr rfl) _) (by have : w.heap.size + 1 < w5.heap.size := hwl; omega) (fun k hk e => by omega))⟩
end
end Go.Proofs.YtlogmdldjmkkjaaGreatDoor
