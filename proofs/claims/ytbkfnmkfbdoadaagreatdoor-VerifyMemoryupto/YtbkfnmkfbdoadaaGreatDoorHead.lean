/-
  The document's fault of a function ahead of its instructions.
-/
import Derived.Test.YtbkfnmkfbdoadaaGreatDoorCheck
namespace Go.Proofs.YtbkfnmkfbdoadaaGreatDoor
open Go.RowKit
set_option linter.unusedVariables false
set_option linter.unusedSimpArgs false
noncomputable section
open Classical
/-- A fault as two numbers. -/
def prV : Option (Int × Int) → Value
  | none => .tuple #[.int .i64 0, .int .i64 0]
  | some (a, y) => .tuple #[.int .i64 a, .int .i64 y]
set_option maxRecDepth 100000 in
set_option maxHeartbeats 12800000 in
theorem head_any {w : World} {pv : Value} {p : Pg} {k : Nat} {f : Fc} (hp : PgV w pv p) (hk : p.funcs[k]? = some f) (hs : f.name.size ≤ 9223372036854775807) :
    Calls Tryz.prog 47 #[pv, .int .i64 (k : Int)] w fun e w' => e = .returned (prV (orE (nmF f.name (decide (∃ g ∈ p.funcs.take k, g.name = f.name))) (szF f (decide (k = 0))))) ∧ Below w.heap.size w w' := by
  obtain ⟨cv, fv, rfl, hc, hf⟩ := hp
  obtain ⟨_, ca, ccap, rfl, _, _, _⟩ := hc
  obtain ⟨fa, fcap, rfl, hNc, hNm, hat⟩ := hf.at
  have HAT := hide hat
  obtain ⟨b, off, x, rfl, hb, hx, cs⟩ := hat k f hk
  have hkl := (List.getElem?_eq_some_iff.1 hk).1
  obtain ⟨a1, c1, a2, c2, rfl⟩ := hx.parts
  obtain ⟨NC, hNC⟩ : ∃ n, p.consts.length = n := ⟨_, rfl⟩
  obtain ⟨NF, hNF⟩ : ∃ n, Hid (p.funcs.length = n) := ⟨_, rfl⟩
  rw [unhide hNF] at hkl hNc
  rw [hNC, unhide hNF]
  have hNx : NF ≤ 9223372036854775807 := Nat.le_trans hNc hNm
  have k0 : w.cell? ⟨b, off + k * 5, none⟩ = some (.string f.name) := cs 0 _ rfl
  have k1 : w.cell? ⟨b, off + k * 5 + 1, none⟩ = some (.int .i64 f.params) := cs 1 _ rfl
  have k2 : w.cell? ⟨b, off + k * 5 + 2, none⟩ = some (.int .i64 f.locals) := cs 2 _ rfl
  have k3 : w.cell? ⟨b, off + k * 5 + 3, none⟩ = some (.slice a1 f.code.length c1) := cs 3 _ rfl
  have k4 : w.cell? ⟨b, off + k * 5 + 4, none⟩ = some (.slice a2 f.hs.length c2) := cs 4 _ rfl
  have i0 : (0 : Int) ≤ (k : Int) := by omega
  have i1 : (k : Int) < (NF : Int) := by omega
  have kz : ((k : Int) == 0) = decide (k = 0) := by
    by_cases q : k = 0
    · simp [q]
    · rw [decide_eq_false q, beq_eq_false_iff_ne]; omega
  obtain ⟨t1, t2, t3, t4⟩ := two_boxes w #[.slice ca NC ccap, .slice (some ⟨b, off, none⟩) NF fcap] #[.string f.name, .int .i64 f.params, .int .i64 f.locals, .slice a1 f.code.length c1, .slice a2 f.hs.length c2] 25 45
  have HT := hide (And.intro t1 (And.intro t2 (And.intro t3 t4)))
  obtain ⟨mz, hmz⟩ : ∃ z, decide (k = 0) = z := ⟨_, rfl⟩
  rw [hmz] at kz
  rw [hmz]
  have kbeg := k0
  obtain ⟨r, hr⟩ : ∃ r, Hid (orE (nmF f.name (decide (∃ g ∈ p.funcs.take k, g.name = f.name))) (szF f mz) = r) := ⟨_, rfl⟩
  rw [unhide hr]
  have HL := hide letter_any
  have hB1 := hide t3
  clear cs hk hat hx hmz hNC
  go_enter Tryz.func47, Tryz.ntmps47
  go_wp2_with fail
  go_loopg [7] f.name.size (fun gg t7 wr => ∃ (i : Nat), Hid (i + gg = f.name.size) ∧ t7 = .int .i64 (i : Int) ∧ wr = ((w.alloc (.cells #[.slice ca NC ccap, .slice (some ⟨b, off, none⟩) NF fcap] 25)).alloc (.cells #[.string f.name, .int .i64 f.params, .int .i64 f.locals, .slice a1 f.code.length c1, .slice a2 f.hs.length c2] 45)) ∧ Hid (∀ j, (h : j < f.name.size) → j < i → letN (f.name[j]).toNat = true))
  case atStart => exact ⟨0, by unfold Hid; omega, rfl, rfl, by unfold Hid; intro j h hj; omega⟩
  case round =>
    obtain ⟨i, hi, rfl, rfl, hM⟩ := hrel
    have x0 := t2 0
    have x1 := t2 1
    have x2 := t2 2
    have x3 := t2 3
    have x4 := t2 4
    have y1 := t1 1
    simp only [List.getElem?_toArray, List.getElem?_cons_zero, List.getElem?_cons_succ] at x0 x1 x2 x3 x4 y1
    by_cases hlt : i < f.name.size
    · have j0 : (0 : Int) ≤ (i : Int) := by omega
      have j1 : (i : Int) < (f.name.size : Int) := by omega
      have HLi := hide (unhide HL (f.name[i]) ((w.alloc (.cells #[.slice ca NC ccap, .slice (some ⟨b, off, none⟩) NF fcap] 25)).alloc (.cells #[.string f.name, .int .i64 f.params, .int .i64 f.locals, .slice a1 f.code.length c1, .slice a2 f.hs.length c2] 45)))
      clear t1 t2 t3 t4
      go_wp2_with fail
      refine (unhide HLi).mono ?_
      rintro e w2 ⟨rfl, rfl⟩
      cases hl : letN (f.name[i]).toNat
      · have hsp : spB f.name = false := by
          have : allL f.name = false := decide_eq_false (fun q => by have := q i hlt; rw [hl] at this; cases this)
          simp [spB, this]
        obtain rfl : r = some (0, 6) := by rw [← unhide hr]; unfold nmF; rw [if_pos hsp]; rfl
        go_wp2_with fail
        go_ret2
        exact ⟨rfl, unhide hB1⟩
      · go_wp2_with fail
        go_roundg (gk - 1)
        case measure => have := unhide hi; omega
        case rel => exact ⟨i + 1, by have := unhide hi; unfold Hid; omega, by go_num, rfl, by
          unfold Hid
          intro j h hj
          by_cases q : j = i
          · subst q; exact hl
          · exact unhide hM j h (by omega)⟩
    · have hiL : i = f.name.size := by have := unhide hi; omega
      have hal : allL f.name = true := decide_eq_true (fun j h => unhide hM j h (by omega))
      have j1 : decide ((i : Int) < (f.name.size : Int)) = false := decide_eq_false (by omega)
      have hte : f.name.toList.length = f.name.size := by rw [ByteArray.toList_eq]; exact Array.length_toList
      by_cases h0 : f.name.size = 0
      · have hsp : spB f.name = false := by simp [spB, h0]
        obtain rfl : r = some (0, 6) := by rw [← unhide hr]; unfold nmF; rw [if_pos hsp]; rfl
        have q9 : f.name.toList.isEmpty = true := by rw [List.isEmpty_iff]; exact List.eq_nil_of_length_eq_zero (by omega)
        clear h0 hte hal hiL hsp t1 t2 t3 t4
        go_wp2_with fail
        go_ret2
        exact ⟨rfl, unhide hB1⟩
      · have hsp : spB f.name = true := by simp [spB, hal]; omega
        have q9 : f.name.toList.isEmpty = false := by
          cases e : f.name.toList with
          | nil => rw [e] at hte; simp at hte; omega
          | cons a b => rfl
        have hr2 := unhide hr
        unfold nmF at hr2
        rw [if_neg (by rw [hsp]; decide)] at hr2
        by_cases h32 : f.name.size > 32
        · rw [if_pos h32] at hr2
          obtain rfl : r = some (0, 5) := by rw [← hr2]; rfl
          have k32 : (32 : Int) < (f.name.size : Int) := by omega
          clear h0 hte hal hiL hsp hr2 t1 t2 t3 t4
          go_wp2_with fail
          go_ret2
          exact ⟨rfl, unhide hB1⟩
        · rw [if_neg h32] at hr2
          have k32 : decide ((32 : Int) < (f.name.size : Int)) = false := decide_eq_false (by omega)
          have HR2 := hide hr2
          clear h0 hte hal hiL hsp hr2 t1 t2 t3 t4
          go_wp2_with fail
          go_loopg [8] k (fun gg t8 wr => ∃ (i : Nat), Hid (i + gg = k) ∧ t8 = .int .i64 (i : Int) ∧ Hid (Below (w.heap.size + 2) ((w.alloc (.cells #[.slice ca NC ccap, .slice (some ⟨b, off, none⟩) NF fcap] 25)).alloc (.cells #[.string f.name, .int .i64 f.params, .int .i64 f.locals, .slice a1 f.code.length c1, .slice a2 f.hs.length c2] 45)) wr) ∧ Hid (∀ (j : Nat) (g : Fc), j < i → p.funcs[j]? = some g → g.name ≠ f.name))
          case atStart => exact ⟨0, by unfold Hid; omega, rfl, Below.refl _ _, by unfold Hid; intro j g hj; omega⟩
          case round =>
            clear x0 x1 x2 x3 x4 y1
            obtain ⟨i, hi2, rfl, hB0, hN⟩ := hrel
            have hsz := (unhide hB0).size
            rw [(unhide HT).2.2.2] at hsz
            have x0 := ((unhide hB0).cell (p := ⟨w.heap.size + 1, 0, none⟩) (by simp)).trans ((unhide HT).2.1 0)
            have x1 := ((unhide hB0).cell (p := ⟨w.heap.size + 1, 1, none⟩) (by simp)).trans ((unhide HT).2.1 1)
            have x2 := ((unhide hB0).cell (p := ⟨w.heap.size + 1, 2, none⟩) (by simp)).trans ((unhide HT).2.1 2)
            have x3 := ((unhide hB0).cell (p := ⟨w.heap.size + 1, 3, none⟩) (by simp)).trans ((unhide HT).2.1 3)
            have y1 := ((unhide hB0).cell (p := ⟨w.heap.size, 1, none⟩) (by simp)).trans ((unhide HT).1 1)
            simp only [List.getElem?_toArray, List.getElem?_cons_zero, List.getElem?_cons_succ] at x0 x1 x2 x3 y1
            have hBw := hide ((unhide HT).2.2.1.trans ((unhide hB0).mono (by omega)))
            by_cases hlt2 : i < k
            · obtain ⟨g, hg⟩ : ∃ g, p.funcs[i]? = some g := ⟨_, List.getElem?_eq_getElem (by rw [unhide hNF]; omega)⟩
              obtain ⟨_, _, x, e, _, gx, gcs⟩ := unhide HAT i g hg
              cases e
              have gn := gx.1
              have z0 : wr.cell? ⟨b, off + i * 5, none⟩ = some (.string g.name) := gn ▸ ((unhide hBw).cell (p := ⟨b, off + i * 5, none⟩) hb).trans (gcs 0 _ rfl)
              have hbr := Nat.lt_of_lt_of_le hb (unhide hBw).size
              have j0 : (0 : Int) ≤ (i : Int) := by omega
              have j2 : (i : Int) < (NF : Int) := by omega
              have j3 : (i : Int) < (k : Int) := by omega
              have HGG := hide hg
              clear gcs gx gn hg
              by_cases he : g.name = f.name
              · have hex : ∃ h ∈ p.funcs.take k, h.name = f.name := ⟨g, List.mem_of_getElem? (i := i) (by rw [List.getElem?_take, if_pos hlt2]; exact unhide HGG), he⟩
                obtain rfl : r = some (0, 15) := by rw [← unhide HR2, if_pos (decide_eq_true hex)]; rfl
                rw [he] at z0
                clear hex
                go_wp2_with fail
                go_quiet (fail)
                go_wp2_with fail
                go_ret2
                exact ⟨rfl, (unhide hBw).trans ((Fr.drewN (S := fun _ => False) nq).below (unhide hBw).size (fun _ _ e => e))⟩
              · have hne : (g.name.toList == f.name.toList) = false := by
                  rw [beq_eq_false_iff_ne]
                  intro e
                  apply he
                  rw [ByteArray.toList_eq, ByteArray.toList_eq] at e
                  cases h1 : g.name; cases h2 : f.name
                  rw [h1, h2] at e
                  simp at e
                  rw [e]
                go_wp2_with fail
                go_quiet (fail)
                have hB3 := hide ((unhide hB0).trans ((Fr.drewN (S := fun _ => False) nq).below hsz (fun _ _ e => e)))
                go_wp2_with fail
                go_roundg (gk - 1)
                case measure => have := unhide hi2; omega
                case rel => exact ⟨i + 1, by have := unhide hi2; unfold Hid; omega, by go_num, hB3, by
                  unfold Hid
                  intro j g' hj hg'
                  by_cases q : j = i
                  · subst q; rw [unhide HGG] at hg'; cases hg'; exact he
                  · exact unhide hN j g' (by omega) hg'⟩
            · have hiK : i = k := by have := unhide hi2; omega
              have j3 : decide ((i : Int) < (k : Int)) = false := decide_eq_false (by omega)
              have hno : ¬ ∃ h ∈ p.funcs.take k, h.name = f.name := fun ⟨h, h1, h2⟩ => by
                obtain ⟨j, hj, e⟩ := List.getElem_of_mem h1
                have hji : j < k := by rw [List.length_take] at hj; omega
                have := List.getElem?_eq_getElem hj
                rw [e, List.getElem?_take, if_pos hji] at this
                exact unhide hN j h (by omega) this h2
              have hr3 := unhide HR2
              rw [if_neg (by rw [decide_eq_false hno]; decide)] at hr3
              simp only [orE] at hr3
              clear hno hiK
              have hfin : ∀ (o : Option (Int × Int)), szF f mz = o → r = o := fun o ho => by rw [← hr3, ho]
              by_cases h1 : f.params < 0
              · obtain rfl := hfin (some (0, 1)) (by unfold szF; rw [if_pos (.inl h1)])
                (clear hfin hr3; go_wp2_with fail; go_ret2; exact ⟨rfl, unhide hBw⟩)
              · by_cases h2 : f.locals < f.params
                · obtain rfl := hfin (some (0, 1)) (by unfold szF; rw [if_pos (.inr (.inl h2))])
                  (clear hfin hr3; go_wp2_with fail; go_ret2; exact ⟨rfl, unhide hBw⟩)
                · have k0z : decide (f.params < 0) = false := decide_eq_false h1
                  have k1z : decide (f.locals < f.params) = false := decide_eq_false h2
                  by_cases h3 : mz = true ∧ f.params ≠ 0
                  · obtain rfl := hfin (some (0, 1)) (by unfold szF; rw [if_pos (.inr (.inr h3))])
                    obtain ⟨rfl, h4⟩ := h3
                    have h5 : (f.params != 0) = true := by rw [bne_iff_ne]; exact h4
                    (clear hfin hr3; go_wp2_with fail; go_ret2; exact ⟨rfl, unhide hBw⟩)
                  · have hno : ¬ (f.params < 0 ∨ f.locals < f.params ∨ (mz = true ∧ f.params ≠ 0)) := fun q => by rcases q with q | q | q <;> contradiction
                    have hsz : szF f mz = if f.locals > 64 then some (0, 5) else if f.code.length = 0 then some (0, 2) else if f.code.length > 2000 then some (2000, 5) else none := by unfold szF; rw [if_neg hno]
                    have hm : mz = false ∨ (mz = true ∧ (f.params != 0) = false) := by
                      cases hq : mz
                      · exact .inl rfl
                      · refine .inr ⟨rfl, ?_⟩
                        by_cases q : f.params = 0
                        · simp [q]
                        · exact absurd ⟨hq, q⟩ h3
                    clear hno h3
                    by_cases h4 : f.locals > 64
                    · obtain rfl := hfin (some (0, 5)) (by rw [hsz, if_pos h4])
                      (clear hsz hfin hr3; rcases hm with rfl | ⟨rfl, hm⟩ <;> (go_wp2_with fail; go_ret2; exact ⟨rfl, unhide hBw⟩))
                    · have k4z : decide (f.locals > 64) = false := decide_eq_false h4
                      by_cases h5 : f.code.length = 0
                      · obtain rfl := hfin (some (0, 2)) (by rw [hsz, if_neg h4, if_pos h5])
                        have k5 : ((f.code.length : Int) == 0) = true := beq_iff_eq.2 (by omega)
                        (clear hsz hfin hr3; rcases hm with rfl | ⟨rfl, hm⟩ <;> (go_wp2_with fail; go_ret2; exact ⟨rfl, unhide hBw⟩))
                      · have k5 : ((f.code.length : Int) == 0) = false := beq_eq_false_iff_ne.2 (by omega)
                        by_cases h6 : f.code.length > 2000
                        · obtain rfl := hfin (some (2000, 5)) (by rw [hsz, if_neg h4, if_neg h5, if_pos h6])
                          have k6 : (2000 : Int) < (f.code.length : Int) := by omega
                          (clear hsz hfin hr3; rcases hm with rfl | ⟨rfl, hm⟩ <;> (go_wp2_with fail; go_ret2; exact ⟨rfl, unhide hBw⟩))
                        · obtain rfl := hfin none (by rw [hsz, if_neg h4, if_neg h5, if_neg h6])
                          have k6 : decide ((2000 : Int) < (f.code.length : Int)) = false := decide_eq_false (by omega)
                          (clear hsz hfin hr3; rcases hm with rfl | ⟨rfl, hm⟩ <;> (go_wp2_with fail; go_ret2; exact ⟨rfl, unhide hBw⟩))
end
end Go.Proofs.YtbkfnmkfbdoadaaGreatDoor
