/-
  The document's fault of one constant.
-/
import Derived.Test.YtbkfnmkfbdoadaaGreatDoorConsts
namespace Go.Proofs.YtbkfnmkfbdoadaaGreatDoor
open Go.RowKit Go.Maps
set_option linter.unusedVariables false
set_option linter.unusedSimpArgs false
noncomputable section
open Classical
def conE (c : Cn) (pre : List Cn) : Int := if rfB c = false then 4 else if c.text.size > 4096 then 5 else if c ∈ pre then 15 else 0
theorem cn_ne {c d : Cn} (h : c ≠ d) : ((c.kind == d.kind) && ((c.n == d.n) && (c.text.toList == d.text.toList))) = false := by
  by_cases h1 : c.kind = d.kind
  · by_cases h2 : c.n = d.n
    · have h3 : c.text ≠ d.text := fun e => h (by cases c; cases d; simp at h1 h2 e; simp [h1, h2, e])
      have h4 : c.text.toList ≠ d.text.toList := fun e => h3 (by
        rw [ByteArray.toList_eq, ByteArray.toList_eq] at e
        cases hc : c.text; cases hd : d.text
        rw [hc, hd] at e
        simp at e
        rw [e])
      rw [beq_eq_false_iff_ne.2 h4]; simp
    · rw [beq_eq_false_iff_ne.2 h2]; simp
  · rw [beq_eq_false_iff_ne.2 h1]; simp
set_option maxRecDepth 100000 in
set_option maxHeartbeats 6400000 in
theorem constant_any {w : World} {lv : Value} {l : List Cn} (h : Rx w 3 lv l.length (flt enC l)) {i : Nat} {c : Cn} (hi : l[i]? = some c) (hL : l.length ≤ 9000000000000) : Calls Tryz.prog 31 #[lv, .int .i64 (i : Int)] w fun e w' => e = .returned (.int .i64 (conE c (l.take i))) ∧ Below w.heap.size w w' := by
  have HC := hide (fun i p (hp : l[i]? = some p) => h.elem zC hp)
  obtain ⟨_, a, cap, rfl, _, _, _⟩ := h
  obtain ⟨kd, nn, tx⟩ := c
  have hil := (List.getElem?_eq_some_iff.1 hi).1
  obtain ⟨b, off, _, e, _, _, hb, hcs⟩ := unhide HC i _ hi
  cases e
  obtain ⟨L, hLL⟩ : ∃ L, Hid (l.length = L) := ⟨_, rfl⟩
  rw [unhide hLL] at hL hil HC ⊢
  have k0 : w.cell? ⟨b, off + i * 3, none⟩ = some (.int .i64 kd) := hcs 0 _ rfl
  have k1 : w.cell? ⟨b, off + i * 3 + 1, none⟩ = some (.int .i64 nn) := hcs 1 _ rfl
  have k2 : w.cell? ⟨b, off + i * 3 + 2, none⟩ = some (.string tx) := hcs 2 _ rfl
  have i0 : (0 : Int) ≤ (i : Int) := by omega
  have i1 : (i : Int) < (L : Int) := by omega
  obtain ⟨r, hr⟩ : ∃ r, Hid (conE ⟨kd, nn, tx⟩ (l.take i) = r) := ⟨_, rfl⟩
  rw [unhide hr]
  have HN := hide (fun w => nan_any nn w)
  have hrf : Hid (rfB ⟨kd, nn, tx⟩ = if kd = 3 then (tx.toList.isEmpty && !badN nn) else if kd = 4 then decide (nn = 0) else false) := rfl
  clear hcs
  by_cases hbad : rfB ⟨kd, nn, tx⟩ = false
  · obtain rfl : r = 4 := by rw [← unhide hr]; unfold conE; rw [if_pos hbad]
    rw [unhide hrf] at hbad
    by_cases h3 : kd = 3
    · rw [if_pos h3] at hbad
      subst h3
      cases hte : tx.toList.isEmpty
      · clear hbad hrf
        go_enter Tryz.func31, Tryz.ntmps31
        go_wp2_with fail
        go_ret
        exact ⟨rfl, (Below.refl _ w).alloc (Nat.le_refl _) _⟩
      · have hbn : badN nn = true := by rw [hte] at hbad; simpa using hbad
        rw [hbn] at HN
        clear hbad hbn hrf
        go_enter Tryz.func31, Tryz.ntmps31
        go_wp2_with fail
        refine (unhide HN _).mono ?_
        rintro e w2 ⟨rfl, rfl⟩
        go_wp2_with fail
        go_ret
        exact ⟨rfl, (Below.refl _ w).alloc (Nat.le_refl _) _⟩
    · rw [if_neg h3] at hbad
      have q3 : (kd == 3) = false := beq_eq_false_iff_ne.2 h3
      have q3' : (kd != 3) = true := by rw [bne_iff_ne]; exact h3
      by_cases h4 : kd = 4
      · rw [if_pos h4] at hbad
        subst h4
        have hn0 : (nn != 0) = true := by rw [bne_iff_ne]; simpa using hbad
        clear h3 hbad hrf q3 q3'
        go_enter Tryz.func31, Tryz.ntmps31
        go_wp2_with fail
        go_ret
        exact ⟨rfl, (Below.refl _ w).alloc (Nat.le_refl _) _⟩
      · have q4' : (kd != 4) = true := by rw [bne_iff_ne]; exact h4
        clear h3 h4 hbad
        go_enter Tryz.func31, Tryz.ntmps31
        go_wp2_with fail
        go_ret
        exact ⟨rfl, (Below.refl _ w).alloc (Nat.le_refl _) _⟩
  · have hgood : rfB ⟨kd, nn, tx⟩ = true := by cases e : rfB ⟨kd, nn, tx⟩ with
      | true => rfl
      | false => exact absurd e hbad
    have hr2 : (if tx.size > 4096 then (5 : Int) else if ⟨kd, nn, tx⟩ ∈ l.take i then 15 else 0) = r := by rw [← unhide hr]; unfold conE; rw [if_neg hbad]
    rw [unhide hrf] at hgood
    have HR2 := hide hr2
    have HGO := hide hgood
    clear hbad hr2 hgood
    -- ahead of the loop
    have key : ∀ (K : Prop), ((kd = 3 ∧ tx.toList.isEmpty = true ∧ badN nn = false) → K) → ((kd = 4 ∧ nn = 0) → K) → K := fun K a b => by
      have hg := unhide HGO
      by_cases h3 : kd = 3
      · rw [if_pos h3] at hg
        simp only [Bool.and_eq_true, Bool.not_eq_true'] at hg
        exact a ⟨h3, hg.1, hg.2⟩
      · rw [if_neg h3] at hg
        by_cases h4 : kd = 4
        · rw [if_pos h4] at hg
          exact b ⟨h4, by simpa using hg⟩
        · rw [if_neg h4] at hg; cases hg
    refine key _ (fun ⟨h3, hte, hbn⟩ => ?_) (fun ⟨h4, hn⟩ => ?_)
    · subst h3
      rw [hbn] at HN
      clear hbn key HGO hrf hr
      by_cases h5 : tx.size > 4096
      · obtain rfl : r = 5 := by rw [← unhide HR2, if_pos h5]
        have k5 : (4096 : Int) < (tx.size : Int) := by omega
        go_enter Tryz.func31, Tryz.ntmps31
        go_wp2_with fail
        refine (unhide HN _).mono ?_
        rintro e w2 ⟨rfl, rfl⟩
        go_wp2_with fail
        go_ret
        exact ⟨rfl, (Below.refl _ w).alloc (Nat.le_refl _) _⟩
      · have hr3 := unhide HR2
        rw [if_neg h5] at hr3
        have HR3 := hide hr3
        have k5 : decide ((4096 : Int) < (tx.size : Int)) = false := decide_eq_false (by omega)
        clear hr3 HR2 h5
        go_enter Tryz.func31, Tryz.ntmps31
        go_wp2_with fail
        refine (unhide HN _).mono ?_
        rintro e w2 ⟨rfl, rfl⟩
        go_wp2_with fail
        go_loopg [6] i (fun gg t6 wr => ∃ (k : Nat), Hid (k + gg = i) ∧ t6 = .int .i64 (k : Int) ∧ Hid (Below (w.heap.size + 1) (w.alloc (.cells #[.int .i64 3, .int .i64 nn, .string tx] 57)) wr) ∧ Hid (∀ (j : Nat) (d : Cn), j < k → l[j]? = some d → d ≠ ⟨3, nn, tx⟩))
        case atStart => exact ⟨0, by unfold Hid; omega, rfl, Below.refl _ _, by unfold Hid; intro j d hj; omega⟩
        case round =>
          obtain ⟨k, hk, rfl, hB0, hM⟩ := hrel
          obtain ⟨hbx, hBw, hwl⟩ := boxN (unhide hB0)
          have x0 := hbx 0 _ rfl
          have x1 := hbx 1 _ rfl
          have x2 := hbx 2 _ rfl
          clear hbx
          by_cases hlt : k < i
          · obtain ⟨d, hd⟩ : ∃ d, l[k]? = some d := ⟨_, List.getElem?_eq_getElem (by rw [unhide hLL]; omega)⟩
            obtain ⟨_, _, _, e, _, _, _, dcs⟩ := unhide HC k d hd
            cases e
            obtain ⟨dk, dn, dt⟩ := d
            have y0 : wr.cell? ⟨b, off + k * 3, none⟩ = some (.int .i64 dk) := (hBw.cell (p := ⟨b, off + k * 3, none⟩) hb).trans (dcs 0 _ rfl)
            have y1 : wr.cell? ⟨b, off + k * 3 + 1, none⟩ = some (.int .i64 dn) := (hBw.cell (p := ⟨b, off + k * 3 + 1, none⟩) hb).trans (dcs 1 _ rfl)
            have y2 : wr.cell? ⟨b, off + k * 3 + 2, none⟩ = some (.string dt) := (hBw.cell (p := ⟨b, off + k * 3 + 2, none⟩) hb).trans (dcs 2 _ rfl)
            have hbr := Nat.lt_of_lt_of_le hb hBw.size
            have j0 : (0 : Int) ≤ (k : Int) := by omega
            have j1 : (k : Int) < (L : Int) := by omega
            have j2 : (k : Int) < (i : Int) := by omega
            have HD := hide hd
            have HBw := hide hBw
            clear dcs hd hBw
            by_cases he : (⟨dk, dn, dt⟩ : Cn) = ⟨3, nn, tx⟩
            · have hmem : (⟨3, nn, tx⟩ : Cn) ∈ l.take i := by
                rw [← he]
                exact List.mem_of_getElem? (i := k) (by rw [List.getElem?_take, if_pos hlt]; exact unhide HD)
              obtain rfl : r = 15 := by rw [← unhide HR3, if_pos hmem]
              simp only [Cn.mk.injEq] at he
              obtain ⟨rfl, rfl, rfl⟩ := he
              clear hmem
              go_wp2_with fail
              go_quiet (fail)
              go_wp2_with fail
              go_ret
              exact ⟨rfl, (unhide HBw).trans ((Fr.drewN (S := fun _ => False) nq).below (unhide HBw).size (fun _ _ e => e))⟩
            · have hM2 : Hid (∀ (j : Nat) (d : Cn), j < k + 1 → l[j]? = some d → d ≠ ⟨3, nn, tx⟩) := by
                intro j d' hj hd'
                by_cases q : j = k
                · subst q; rw [unhide HD] at hd'; cases hd'; exact he
                · exact unhide hM j d' (by omega) hd'
              by_cases e1 : dk = 3
              · subst e1
                by_cases e2 : dn = nn
                · subst e2
                  have e3 : (dt.toList == tx.toList) = false := by
                    rw [beq_eq_false_iff_ne]
                    intro e
                    apply he
                    rw [ByteArray.toList_eq, ByteArray.toList_eq] at e
                    have : dt = tx := by cases dt; cases tx; simp at e; simp [e]
                    rw [this]
                  clear he
                  go_wp2_with fail
                  go_quiet (fail)
                  have hB3 := hide ((unhide hB0).trans ((Fr.drewN (S := fun _ => False) nq).below hwl (fun _ _ e => e)))
                  go_wp2_with fail
                  go_roundg (gk - 1)
                  case measure => have := unhide hk; omega
                  case rel => exact ⟨k + 1, by have := unhide hk; unfold Hid; omega, by go_num, hB3, hM2⟩
                · have f2 : (dn == nn) = false := beq_eq_false_iff_ne.2 e2
                  clear he e2
                  go_wp2_with fail
                  go_quiet (fail)
                  have hB3 := hide ((unhide hB0).trans ((Fr.drewN (S := fun _ => False) nq).below hwl (fun _ _ e => e)))
                  go_wp2_with fail
                  go_roundg (gk - 1)
                  case measure => have := unhide hk; omega
                  case rel => exact ⟨k + 1, by have := unhide hk; unfold Hid; omega, by go_num, hB3, hM2⟩
              · have f1 : (dk == 3) = false := beq_eq_false_iff_ne.2 e1
                clear he e1
                go_wp2_with fail
                go_quiet (fail)
                have hB3 := hide ((unhide hB0).trans ((Fr.drewN (S := fun _ => False) nq).below hwl (fun _ _ e => e)))
                go_wp2_with fail
                go_roundg (gk - 1)
                case measure => have := unhide hk; omega
                case rel => exact ⟨k + 1, by have := unhide hk; unfold Hid; omega, by go_num, hB3, hM2⟩
          · have hkL : i = k := by have := unhide hk; omega
            subst hkL
            have hno : ¬ (⟨3, nn, tx⟩ : Cn) ∈ l.take i := fun hm => by
              obtain ⟨j, hj, e⟩ := List.getElem_of_mem hm
              have hji : j < i := by rw [List.length_take] at hj; omega
              have := List.getElem?_eq_getElem hj
              rw [e, List.getElem?_take, if_pos hji] at this
              exact unhide hM j _ hji this rfl
            obtain rfl : r = 0 := by rw [← unhide HR3, if_neg hno]
            clear hno
            go_wp2_with fail
            go_ret
            exact ⟨rfl, hBw⟩
    · subst h4 hn
      clear key HGO hrf hr HN
      by_cases h5 : tx.size > 4096
      · obtain rfl : r = 5 := by rw [← unhide HR2, if_pos h5]
        have k5 : (4096 : Int) < (tx.size : Int) := by omega
        go_enter Tryz.func31, Tryz.ntmps31
        go_wp2_with fail
        go_ret
        exact ⟨rfl, (Below.refl _ w).alloc (Nat.le_refl _) _⟩
      · have hr3 := unhide HR2
        rw [if_neg h5] at hr3
        have HR3 := hide hr3
        have k5 : decide ((4096 : Int) < (tx.size : Int)) = false := decide_eq_false (by omega)
        clear hr3 HR2 h5
        go_enter Tryz.func31, Tryz.ntmps31
        go_wp2_with fail
        go_loopg [6] i (fun gg t6 wr => ∃ (k : Nat), Hid (k + gg = i) ∧ t6 = .int .i64 (k : Int) ∧ Hid (Below (w.heap.size + 1) (w.alloc (.cells #[.int .i64 4, .int .i64 0, .string tx] 57)) wr) ∧ Hid (∀ (j : Nat) (d : Cn), j < k → l[j]? = some d → d ≠ ⟨4, 0, tx⟩))
        case atStart => exact ⟨0, by unfold Hid; omega, rfl, Below.refl _ _, by unfold Hid; intro j d hj; omega⟩
        case round =>
          obtain ⟨k, hk, rfl, hB0, hM⟩ := hrel
          obtain ⟨hbx, hBw, hwl⟩ := boxN (unhide hB0)
          have x0 := hbx 0 _ rfl
          have x1 := hbx 1 _ rfl
          have x2 := hbx 2 _ rfl
          clear hbx
          by_cases hlt : k < i
          · obtain ⟨d, hd⟩ : ∃ d, l[k]? = some d := ⟨_, List.getElem?_eq_getElem (by rw [unhide hLL]; omega)⟩
            obtain ⟨_, _, _, e, _, _, _, dcs⟩ := unhide HC k d hd
            cases e
            obtain ⟨dk, dn, dt⟩ := d
            have y0 : wr.cell? ⟨b, off + k * 3, none⟩ = some (.int .i64 dk) := (hBw.cell (p := ⟨b, off + k * 3, none⟩) hb).trans (dcs 0 _ rfl)
            have y1 : wr.cell? ⟨b, off + k * 3 + 1, none⟩ = some (.int .i64 dn) := (hBw.cell (p := ⟨b, off + k * 3 + 1, none⟩) hb).trans (dcs 1 _ rfl)
            have y2 : wr.cell? ⟨b, off + k * 3 + 2, none⟩ = some (.string dt) := (hBw.cell (p := ⟨b, off + k * 3 + 2, none⟩) hb).trans (dcs 2 _ rfl)
            have hbr := Nat.lt_of_lt_of_le hb hBw.size
            have j0 : (0 : Int) ≤ (k : Int) := by omega
            have j1 : (k : Int) < (L : Int) := by omega
            have j2 : (k : Int) < (i : Int) := by omega
            have HD := hide hd
            have HBw := hide hBw
            clear dcs hd hBw
            by_cases he : (⟨dk, dn, dt⟩ : Cn) = ⟨4, 0, tx⟩
            · have hmem : (⟨4, 0, tx⟩ : Cn) ∈ l.take i := by
                rw [← he]
                exact List.mem_of_getElem? (i := k) (by rw [List.getElem?_take, if_pos hlt]; exact unhide HD)
              obtain rfl : r = 15 := by rw [← unhide HR3, if_pos hmem]
              simp only [Cn.mk.injEq] at he
              obtain ⟨rfl, rfl, rfl⟩ := he
              clear hmem
              go_wp2_with fail
              go_quiet (fail)
              go_wp2_with fail
              go_ret
              exact ⟨rfl, (unhide HBw).trans ((Fr.drewN (S := fun _ => False) nq).below (unhide HBw).size (fun _ _ e => e))⟩
            · have hM2 : Hid (∀ (j : Nat) (d : Cn), j < k + 1 → l[j]? = some d → d ≠ ⟨4, 0, tx⟩) := by
                intro j d' hj hd'
                by_cases q : j = k
                · subst q; rw [unhide HD] at hd'; cases hd'; exact he
                · exact unhide hM j d' (by omega) hd'
              by_cases e1 : dk = 4
              · subst e1
                by_cases e2 : dn = 0
                · subst e2
                  have e3 : (dt.toList == tx.toList) = false := by
                    rw [beq_eq_false_iff_ne]
                    intro e
                    apply he
                    rw [ByteArray.toList_eq, ByteArray.toList_eq] at e
                    have : dt = tx := by cases dt; cases tx; simp at e; simp [e]
                    rw [this]
                  clear he
                  go_wp2_with fail
                  go_quiet (fail)
                  have hB3 := hide ((unhide hB0).trans ((Fr.drewN (S := fun _ => False) nq).below hwl (fun _ _ e => e)))
                  go_wp2_with fail
                  go_roundg (gk - 1)
                  case measure => have := unhide hk; omega
                  case rel => exact ⟨k + 1, by have := unhide hk; unfold Hid; omega, by go_num, hB3, hM2⟩
                · have f2 : (dn == 0) = false := beq_eq_false_iff_ne.2 e2
                  clear he e2
                  go_wp2_with fail
                  go_quiet (fail)
                  have hB3 := hide ((unhide hB0).trans ((Fr.drewN (S := fun _ => False) nq).below hwl (fun _ _ e => e)))
                  go_wp2_with fail
                  go_roundg (gk - 1)
                  case measure => have := unhide hk; omega
                  case rel => exact ⟨k + 1, by have := unhide hk; unfold Hid; omega, by go_num, hB3, hM2⟩
              · have f1 : (dk == 4) = false := beq_eq_false_iff_ne.2 e1
                clear he e1
                go_wp2_with fail
                go_quiet (fail)
                have hB3 := hide ((unhide hB0).trans ((Fr.drewN (S := fun _ => False) nq).below hwl (fun _ _ e => e)))
                go_wp2_with fail
                go_roundg (gk - 1)
                case measure => have := unhide hk; omega
                case rel => exact ⟨k + 1, by have := unhide hk; unfold Hid; omega, by go_num, hB3, hM2⟩
          · have hkL : i = k := by have := unhide hk; omega
            subst hkL
            have hno : ¬ (⟨4, 0, tx⟩ : Cn) ∈ l.take i := fun hm => by
              obtain ⟨j, hj, e⟩ := List.getElem_of_mem hm
              have hji : j < i := by rw [List.length_take] at hj; omega
              have := List.getElem?_eq_getElem hj
              rw [e, List.getElem?_take, if_pos hji] at this
              exact unhide hM j _ hji this rfl
            obtain rfl : r = 0 := by rw [← unhide HR3, if_neg hno]
            clear hno
            go_wp2_with fail
            go_ret
            exact ⟨rfl, hBw⟩
end
end Go.Proofs.YtbkfnmkfbdoadaaGreatDoor
