/-
  right.
-/
import Derived.Test.YtfaafamdjcojlaaDoorGrow0
namespace Go.Proofs.YtfaafamdjcojlaaDoor
open Go.RowKit
set_option linter.unusedVariables false
set_option linter.unusedSimpArgs false
set_option maxRecDepth 100000
noncomputable section
set_option maxHeartbeats 6400000 in
theorem rgt_any {w : World} {lv : Value} {l : List Cn} (c : Cn) (h : Rx w 3 lv l.length (flt enC l)) (hL : l.length ≤ 9000000000000) : Calls Tryd.prog 21 #[lv, .agg #[.int .i64 c.kind, .int .i64 c.n, .string c.text]] w fun e w' => ∃ b, e = .returned (.bool b) ∧ (b = true → conE c l = 0) ∧ Below w.heap.size w w' := by
  have HC := hide (fun i p (hp : l[i]? = some p) => h.elem zC hp)
  obtain ⟨_, a, cap, rfl, hlc, hcm, _⟩ := h
  obtain ⟨L, hLL⟩ : ∃ L, Hid (l.length = L) := ⟨_, rfl⟩
  rw [unhide hLL] at hL hlc HC ⊢
  obtain ⟨kk, nn, tx⟩ := c
  simp only
  go_enter Tryd.func21, Tryd.ntmps21
  go_wp2_with fail
  go_loopg [5] L (fun gg t5 wr => ∃ (i : Nat), Hid (i + gg = L) ∧ t5 = .int .i64 (i : Int) ∧ Hid (Below (w.heap.size + 1) (w.alloc (.cells #[.int .i64 kk, .int .i64 nn, .string tx] 39)) wr) ∧ Hid (∀ (j : Nat) (d : Cn), j < i → l[j]? = some d → d ≠ ⟨kk, nn, tx⟩))
  case atStart => exact ⟨0, by unfold Hid; omega, rfl, Below.refl _ _, by unfold Hid; intro j d hj; omega⟩
  case round =>
    obtain ⟨k, hk, rfl, hB0, hM⟩ := hrel
    obtain ⟨hbx, hBw, hwl⟩ := boxN (unhide hB0)
    have x0 := hbx 0 _ rfl
    have x1 := hbx 1 _ rfl
    have x2 := hbx 2 _ rfl
    clear hbx
    by_cases hlt : k < L
    · obtain ⟨d, hd⟩ : ∃ d, l[k]? = some d := ⟨_, List.getElem?_eq_getElem (by rw [unhide hLL]; omega)⟩
      obtain ⟨b, off, _, e, _, _, hb, dcs⟩ := unhide HC k d hd
      cases e
      obtain ⟨dk, dn, dt⟩ := d
      have y0 : wr.cell? ⟨b, off + k * 3, none⟩ = some (.int .i64 dk) := (hBw.cell (p := ⟨b, off + k * 3, none⟩) hb).trans (dcs 0 _ rfl)
      have y1 : wr.cell? ⟨b, off + k * 3 + 1, none⟩ = some (.int .i64 dn) := (hBw.cell (p := ⟨b, off + k * 3 + 1, none⟩) hb).trans (dcs 1 _ rfl)
      have y2 : wr.cell? ⟨b, off + k * 3 + 2, none⟩ = some (.string dt) := (hBw.cell (p := ⟨b, off + k * 3 + 2, none⟩) hb).trans (dcs 2 _ rfl)
      have hbr := Nat.lt_of_lt_of_le hb hBw.size
      have j0 : (0 : Int) ≤ (k : Int) := by omega
      have j1 : (k : Int) < (L : Int) := by omega
      have HD := hide hd
      have HBw := hide hBw
      clear dcs hd hBw
      by_cases he : (⟨dk, dn, dt⟩ : Cn) = ⟨kk, nn, tx⟩
      · simp only [Cn.mk.injEq] at he
        obtain ⟨rfl, rfl, rfl⟩ := he
        go_wp2_with fail
        go_quiet (fail)
        go_wp2_with fail
        go_ret
        exact ⟨_, rfl, (fun q => by cases q), (unhide HBw).trans ((Fr.drewN (S := fun _ => False) nq).below (unhide HBw).size (fun _ _ e => e))⟩
      · have hM2 : Hid (∀ (j : Nat) (d : Cn), j < k + 1 → l[j]? = some d → d ≠ ⟨kk, nn, tx⟩) := by
          intro j d' hj hd'
          by_cases q : j = k
          · subst q; rw [unhide HD] at hd'; cases hd'; exact he
          · exact unhide hM j d' (by omega) hd'
        by_cases e1 : dk = kk
        · subst e1
          by_cases e2 : dn = nn
          · subst e2
            have e3 : (dt.toList == tx.toList) = false := by
              rw [beq_eq_false_iff_ne]
              intro e
              apply he
              rw [ByteArray.toList_eq, ByteArray.toList_eq] at e
              have : dt = tx := by cases dt; cases tx; simp at e; simp [e]
              rw [this]
            clear he
            go_wp2_with fail
            go_quiet (fail)
            have hB3 := hide ((unhide hB0).trans ((Fr.drewN (S := fun _ => False) nq).below hwl (fun _ _ e => e)))
            go_wp2_with fail
            go_roundg (gk - 1)
            case measure => have := unhide hk; omega
            case rel => exact ⟨k + 1, by have := unhide hk; unfold Hid; omega, by go_num, hB3, hM2⟩
          · have f2 : (dn == nn) = false := beq_eq_false_iff_ne.2 e2
            clear he e2
            go_wp2_with fail
            go_quiet (fail)
            have hB3 := hide ((unhide hB0).trans ((Fr.drewN (S := fun _ => False) nq).below hwl (fun _ _ e => e)))
            go_wp2_with fail
            go_roundg (gk - 1)
            case measure => have := unhide hk; omega
            case rel => exact ⟨k + 1, by have := unhide hk; unfold Hid; omega, by go_num, hB3, hM2⟩
        · have f1 : (dk == kk) = false := beq_eq_false_iff_ne.2 e1
          clear he e1
          go_wp2_with fail
          go_quiet (fail)
          have hB3 := hide ((unhide hB0).trans ((Fr.drewN (S := fun _ => False) nq).below hwl (fun _ _ e => e)))
          go_wp2_with fail
          go_roundg (gk - 1)
          case measure => have := unhide hk; omega
          case rel => exact ⟨k + 1, by have := unhide hk; unfold Hid; omega, by go_num, hB3, hM2⟩
    · have hkL : L = k := by have := unhide hk; omega
      subst hkL
      have HNO : Hid (¬ (⟨kk, nn, tx⟩ : Cn) ∈ l) := fun hm => by
        obtain ⟨j, hj, e⟩ := List.getElem_of_mem hm
        exact unhide hM j _ (by rw [← unhide hLL]; exact hj) (List.getElem?_eq_getElem hj) e
      have HBw := hide hBw
      clear hBw hM hk
      by_cases h4 : kk = 4
      · subst h4
        by_cases hn : nn = 0
        · subst hn
          by_cases ht : tx.size ≤ 4096
          · have q1 : decide ((tx.size : Int) ≤ 4096) = true := decide_eq_true (by omega)
            have HR : Hid (conE ⟨4, 0, tx⟩ l = 0) := by
              unfold Hid conE
              rw [show rfB ⟨4, 0, tx⟩ = true by simp [rfB], if_neg (by simp), if_neg (by simp only; omega), if_neg (unhide HNO)]
            clear ht
            go_wp2_with fail
            go_ret
            exact ⟨_, rfl, (fun _ => unhide HR), unhide HBw⟩
          · have q1 : decide ((tx.size : Int) ≤ 4096) = false := decide_eq_false (by omega)
            clear ht
            go_wp2_with fail
            go_ret
            exact ⟨_, rfl, (fun q => by simp [q1] at q), unhide HBw⟩
        · have f2 : (nn == 0) = false := beq_eq_false_iff_ne.2 hn
          clear hn
          go_wp2_with fail
          go_ret
          exact ⟨_, rfl, (fun q => by simp [f2] at q), unhide HBw⟩
      · have f4 : (kk == 4) = false := beq_eq_false_iff_ne.2 h4
        clear h4
        by_cases h3 : kk = 3
        · subst h3
          by_cases ht : tx = ByteArray.empty
          · subst ht
            go_wp2_with fail
            go_ret
            refine ⟨_, rfl, (fun q => ?_), unhide HBw⟩
            have q1 : wrap64 (nn * 4096) = 0 := by simpa using q
            unfold conE
            rw [show rfB ⟨3, nn, ByteArray.empty⟩ = true by
              unfold rfB
              rw [if_pos rfl]
              show ((ByteArray.empty).toList.isEmpty && !badN nn) = true
              rw [badN_no q1, show (ByteArray.empty).toList.isEmpty = true by rw [ByteArray.toList_eq]; rfl]
              rfl, if_neg (by simp), if_neg (by simp), if_neg (unhide HNO)]
          · have q9 : tx.toList.isEmpty = false := by
              rw [ByteArray.toList_eq]
              cases e : tx.data.toList with
              | nil => exact absurd (by cases tx; simp at e; simp [e]; rfl) ht
              | cons a b => rfl
            clear ht
            go_wp2_with fail
            go_ret
            exact ⟨_, rfl, (fun q => by simp [q9] at q), unhide HBw⟩
        · have f3 : (kk == 3) = false := beq_eq_false_iff_ne.2 h3
          clear h3
          go_wp2_with fail
          go_ret
          exact ⟨_, rfl, (fun q => by simp [f3] at q), unhide HBw⟩
end
end Go.Proofs.YtfaafamdjcojlaaDoor
