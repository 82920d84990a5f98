/-
  The document's letter, handler, constant, names.
-/
import Derived.Test.YtlogmdldjmkkjaaGreatDoorCheck
import Derived.Test.YtlogmdldjmkkjaaGreatDoorDOp
namespace Go.Proofs.YtlogmdldjmkkjaaGreatDoor
open Go.RowKit Go.Maps
set_option linter.unusedVariables false
set_option linter.unusedSimpArgs false
set_option maxRecDepth 100000 in
set_option maxHeartbeats 3200000 in
theorem handler_any (h : Hd) (n : Int) (w : World) : Calls Tryz.prog 112 #[.agg #[.int .i64 h.frm, .int .i64 h.to, .int .i64 h.target, .int .i64 h.height], .int .i64 n] w fun e w' => e = .returned (.bool (fitB h n)) ∧ Below w.heap.size w w' := by
  have hB : Below w.heap.size w (w.alloc (.cells #[.int .i64 h.frm, .int .i64 h.to, .int .i64 h.target, .int .i64 h.height] 112)) := (Below.refl _ w).alloc (Nat.le_refl _) _
  obtain ⟨a, b, c, d⟩ := h
  simp only at hB ⊢
  obtain ⟨r, hr⟩ : ∃ r, Hid (fitB ⟨a, b, c, d⟩ n = r) := ⟨_, rfl⟩
  rw [unhide hr]
  have HB := hide hB
  clear hB
  have fin : ∀ (q : Bool), fitB ⟨a, b, c, d⟩ n = q → q = r := fun q hq => hq.symm.trans (unhide hr)
  have no : ¬ (0 ≤ a ∧ a < b ∧ b ≤ n ∧ 0 ≤ c ∧ c < n ∧ 0 ≤ d ∧ d < 64) → r = false := fun k => (fin _ (fit_no k)).symm
  have yes : (0 ≤ a ∧ a < b ∧ b ≤ n ∧ 0 ≤ c ∧ c < n ∧ 0 ≤ d ∧ d < 64) → r = true := fun k => (fin _ (fit_yes k)).symm
  have NO := hide no
  have YES := hide yes
  clear fin no yes hr
  by_cases h1 : 0 ≤ a
  · by_cases h2 : a < b
    · by_cases h3 : b ≤ n
      · by_cases h4 : 0 ≤ c
        · by_cases h5 : c < n
          · by_cases h6 : 0 ≤ d
            · by_cases h7 : d < 64
              · obtain rfl := unhide YES ⟨h1, h2, h3, h4, h5, h6, h7⟩
                go_enter Tryz.func112, Tryz.ntmps112
                go_wp2
                go_ret
                exact ⟨rfl, unhide HB⟩
              · (obtain rfl := unhide NO (by omega); go_enter Tryz.func112, Tryz.ntmps112; go_wp2; go_ret; exact ⟨rfl, unhide HB⟩)
            · (obtain rfl := unhide NO (by omega); go_enter Tryz.func112, Tryz.ntmps112; go_wp2; go_ret; exact ⟨rfl, unhide HB⟩)
          · (obtain rfl := unhide NO (by omega); go_enter Tryz.func112, Tryz.ntmps112; go_wp2; go_ret; exact ⟨rfl, unhide HB⟩)
        · (obtain rfl := unhide NO (by omega); go_enter Tryz.func112, Tryz.ntmps112; go_wp2; go_ret; exact ⟨rfl, unhide HB⟩)
      · (obtain rfl := unhide NO (by omega); go_enter Tryz.func112, Tryz.ntmps112; go_wp2; go_ret; exact ⟨rfl, unhide HB⟩)
    · (obtain rfl := unhide NO (by omega); go_enter Tryz.func112, Tryz.ntmps112; go_wp2; go_ret; exact ⟨rfl, unhide HB⟩)
  · (obtain rfl := unhide NO (by omega); go_enter Tryz.func112, Tryz.ntmps112; go_wp2; go_ret; exact ⟨rfl, unhide HB⟩)

set_option linter.unusedVariables false
set_option linter.unusedSimpArgs false
set_option maxRecDepth 100000 in
set_option maxHeartbeats 3200000 in
theorem letter_any (c : UInt8) (w : World) : Calls Tryz.prog 152 #[.int .u8 (c.toNat : Int)] w fun e w' => e = .returned (.bool (letN c.toNat)) ∧ w' = w := by
  obtain ⟨b, hb⟩ : ∃ b, c.toNat = b := ⟨_, rfl⟩
  have hlt : b < 256 := by rw [← hb]; exact c.toNat_lt
  rw [hb]
  clear hb
  rcases nine b hlt with ⟨u, v⟩ | ⟨u, v⟩ | ⟨u, v⟩ | ⟨u, v⟩ | ⟨u, v⟩ | ⟨u, v⟩ | ⟨u, v⟩ | ⟨u, v⟩ | ⟨u, v⟩
  · have hL : letN b = false := by unfold letN; exact decide_eq_false (by omega)
    rw [hL]
    have q1 : decide ((97 : Int) ≤ (b : Int)) = false := decide_eq_false (by omega)
    have q2 : decide ((65 : Int) ≤ (b : Int)) = false := decide_eq_false (by omega)
    have q3 : decide ((48 : Int) ≤ (b : Int)) = false := decide_eq_false (by omega)
    have q4 : (b : Int) ≤ (122 : Int) := by omega
    have q5 : (b : Int) ≤ (90 : Int) := by omega
    have q6 : (b : Int) ≤ (57 : Int) := by omega
    have q7 : ((b : Int) == 95) = false := beq_eq_false_iff_ne.2 (by omega)
    clear hL hlt
    go_enter Tryz.func152, Tryz.ntmps152
    go_wp2
    go_ret
    exact ⟨rfl, rfl⟩
  · have hL : letN b = true := by unfold letN; exact decide_eq_true (by omega)
    rw [hL]
    have q1 : decide ((97 : Int) ≤ (b : Int)) = false := decide_eq_false (by omega)
    have q2 : decide ((65 : Int) ≤ (b : Int)) = false := decide_eq_false (by omega)
    have q3 : (48 : Int) ≤ (b : Int) := by omega
    have q4 : (b : Int) ≤ (122 : Int) := by omega
    have q5 : (b : Int) ≤ (90 : Int) := by omega
    have q6 : (b : Int) ≤ (57 : Int) := by omega
    have q7 : ((b : Int) == 95) = false := beq_eq_false_iff_ne.2 (by omega)
    clear hL hlt
    go_enter Tryz.func152, Tryz.ntmps152
    go_wp2
    go_ret
    exact ⟨rfl, rfl⟩
  · have hL : letN b = false := by unfold letN; exact decide_eq_false (by omega)
    rw [hL]
    have q1 : decide ((97 : Int) ≤ (b : Int)) = false := decide_eq_false (by omega)
    have q2 : decide ((65 : Int) ≤ (b : Int)) = false := decide_eq_false (by omega)
    have q3 : (48 : Int) ≤ (b : Int) := by omega
    have q4 : (b : Int) ≤ (122 : Int) := by omega
    have q5 : (b : Int) ≤ (90 : Int) := by omega
    have q6 : decide ((b : Int) ≤ (57 : Int)) = false := decide_eq_false (by omega)
    have q7 : ((b : Int) == 95) = false := beq_eq_false_iff_ne.2 (by omega)
    clear hL hlt
    go_enter Tryz.func152, Tryz.ntmps152
    go_wp2
    go_ret
    exact ⟨rfl, rfl⟩
  · have hL : letN b = true := by unfold letN; exact decide_eq_true (by omega)
    rw [hL]
    have q1 : decide ((97 : Int) ≤ (b : Int)) = false := decide_eq_false (by omega)
    have q2 : (65 : Int) ≤ (b : Int) := by omega
    have q3 : (48 : Int) ≤ (b : Int) := by omega
    have q4 : (b : Int) ≤ (122 : Int) := by omega
    have q5 : (b : Int) ≤ (90 : Int) := by omega
    have q6 : decide ((b : Int) ≤ (57 : Int)) = false := decide_eq_false (by omega)
    have q7 : ((b : Int) == 95) = false := beq_eq_false_iff_ne.2 (by omega)
    clear hL hlt
    go_enter Tryz.func152, Tryz.ntmps152
    go_wp2
    go_ret
    exact ⟨rfl, rfl⟩
  · have hL : letN b = false := by unfold letN; exact decide_eq_false (by omega)
    rw [hL]
    have q1 : decide ((97 : Int) ≤ (b : Int)) = false := decide_eq_false (by omega)
    have q2 : (65 : Int) ≤ (b : Int) := by omega
    have q3 : (48 : Int) ≤ (b : Int) := by omega
    have q4 : (b : Int) ≤ (122 : Int) := by omega
    have q5 : decide ((b : Int) ≤ (90 : Int)) = false := decide_eq_false (by omega)
    have q6 : decide ((b : Int) ≤ (57 : Int)) = false := decide_eq_false (by omega)
    have q7 : ((b : Int) == 95) = false := beq_eq_false_iff_ne.2 (by omega)
    clear hL hlt
    go_enter Tryz.func152, Tryz.ntmps152
    go_wp2
    go_ret
    exact ⟨rfl, rfl⟩
  · have hL : letN b = true := by unfold letN; exact decide_eq_true (by omega)
    rw [hL]
    have q1 : decide ((97 : Int) ≤ (b : Int)) = false := decide_eq_false (by omega)
    have q2 : (65 : Int) ≤ (b : Int) := by omega
    have q3 : (48 : Int) ≤ (b : Int) := by omega
    have q4 : (b : Int) ≤ (122 : Int) := by omega
    have q5 : decide ((b : Int) ≤ (90 : Int)) = false := decide_eq_false (by omega)
    have q6 : decide ((b : Int) ≤ (57 : Int)) = false := decide_eq_false (by omega)
    have q7 : ((b : Int) == 95) = true := beq_iff_eq.2 (by omega)
    clear hL hlt
    go_enter Tryz.func152, Tryz.ntmps152
    go_wp2
    go_ret
    exact ⟨rfl, rfl⟩
  · have hL : letN b = false := by unfold letN; exact decide_eq_false (by omega)
    rw [hL]
    have q1 : decide ((97 : Int) ≤ (b : Int)) = false := decide_eq_false (by omega)
    have q2 : (65 : Int) ≤ (b : Int) := by omega
    have q3 : (48 : Int) ≤ (b : Int) := by omega
    have q4 : (b : Int) ≤ (122 : Int) := by omega
    have q5 : decide ((b : Int) ≤ (90 : Int)) = false := decide_eq_false (by omega)
    have q6 : decide ((b : Int) ≤ (57 : Int)) = false := decide_eq_false (by omega)
    have q7 : ((b : Int) == 95) = false := beq_eq_false_iff_ne.2 (by omega)
    clear hL hlt
    go_enter Tryz.func152, Tryz.ntmps152
    go_wp2
    go_ret
    exact ⟨rfl, rfl⟩
  · have hL : letN b = true := by unfold letN; exact decide_eq_true (by omega)
    rw [hL]
    have q1 : (97 : Int) ≤ (b : Int) := by omega
    have q2 : (65 : Int) ≤ (b : Int) := by omega
    have q3 : (48 : Int) ≤ (b : Int) := by omega
    have q4 : (b : Int) ≤ (122 : Int) := by omega
    have q5 : decide ((b : Int) ≤ (90 : Int)) = false := decide_eq_false (by omega)
    have q6 : decide ((b : Int) ≤ (57 : Int)) = false := decide_eq_false (by omega)
    have q7 : ((b : Int) == 95) = false := beq_eq_false_iff_ne.2 (by omega)
    clear hL hlt
    go_enter Tryz.func152, Tryz.ntmps152
    go_wp2
    go_ret
    exact ⟨rfl, rfl⟩
  · have hL : letN b = false := by unfold letN; exact decide_eq_false (by omega)
    rw [hL]
    have q1 : (97 : Int) ≤ (b : Int) := by omega
    have q2 : (65 : Int) ≤ (b : Int) := by omega
    have q3 : (48 : Int) ≤ (b : Int) := by omega
    have q4 : decide ((b : Int) ≤ (122 : Int)) = false := decide_eq_false (by omega)
    have q5 : decide ((b : Int) ≤ (90 : Int)) = false := decide_eq_false (by omega)
    have q6 : decide ((b : Int) ≤ (57 : Int)) = false := decide_eq_false (by omega)
    have q7 : ((b : Int) == 95) = false := beq_eq_false_iff_ne.2 (by omega)
    clear hL hlt
    go_enter Tryz.func152, Tryz.ntmps152
    go_wp2
    go_ret
    exact ⟨rfl, rfl⟩

set_option maxRecDepth 100000 in
theorem nan_any (n : Int) (w : World) : Calls Tryz.prog 108 #[.int .i64 n] w fun e w' => e = .returned (.bool (badN n)) ∧ w' = w := by
  have hw := uN_wrap n
  have hlt := uN_lt n
  have hb : badN n = (isN (uN n) && (uN n != 9221120237041090560)) := rfl
  rw [isN] at hb
  rw [hb]
  generalize uN n = u at *
  clear hb
  have h2 : IntKind.u64.wrap ((u : Int) * 2) = ((2 * (u % 9223372036854775808) : Nat) : Int) := by rw [IntKind.wrap_u64]; omega
  by_cases h1 : 9218868437227405312 < u % 9223372036854775808
  · have k1 : (18437736874454810624 : Int) < ((2 * (u % 9223372036854775808) : Nat) : Int) := by omega
    rw [decide_eq_true h1, Bool.true_and]
    by_cases h3 : u = 9221120237041090560
    · have k3 : ((u : Int) != 9221120237041090560) = false := by simp [h3]
      have r3 : (u != 9221120237041090560) = false := by simp [h3]
      rw [r3]
      clear h3 r3
      go_enter Tryz.func108, Tryz.ntmps108
      go_wp2
      go_ret
      exact ⟨rfl, rfl⟩
    · have k3 : ((u : Int) != 9221120237041090560) = true := by rw [bne_iff_ne]; omega
      have r3 : (u != 9221120237041090560) = true := by rw [bne_iff_ne]; exact h3
      rw [r3]
      clear h3 r3
      go_enter Tryz.func108, Tryz.ntmps108
      go_wp2
      go_ret
      exact ⟨rfl, rfl⟩
  · have k1 : decide ((18437736874454810624 : Int) < ((2 * (u % 9223372036854775808) : Nat) : Int)) = false := decide_eq_false (by omega)
    rw [decide_eq_false h1, Bool.false_and]
    go_enter Tryz.func108, Tryz.ntmps108
    go_wp2
    go_ret
    exact ⟨rfl, rfl⟩

noncomputable section
open Classical
set_option maxRecDepth 100000 in
set_option maxHeartbeats 6400000 in
theorem constant_any {w : World} {lv : Value} {l : List Cn} (h : Rx w 3 lv l.length (flt enC l)) {i : Nat} {c : Cn} (hi : l[i]? = some c) (hL : l.length ≤ 9000000000000) : Calls Tryz.prog 63 #[lv, .int .i64 (i : Int)] w fun e w' => e = .returned (.int .i64 (conE c (l.take i))) ∧ Below w.heap.size w w' := by
  have HC := hide (fun i p (hp : l[i]? = some p) => h.elem zC hp)
  obtain ⟨_, a, cap, rfl, _, _, _⟩ := h
  obtain ⟨kd, nn, tx⟩ := c
  have hil := (List.getElem?_eq_some_iff.1 hi).1
  obtain ⟨b, off, _, e, _, _, hb, hcs⟩ := unhide HC i _ hi
  cases e
  obtain ⟨L, hLL⟩ : ∃ L, Hid (l.length = L) := ⟨_, rfl⟩
  rw [unhide hLL] at hL hil HC ⊢
  have k0 : w.cell? ⟨b, off + i * 3, none⟩ = some (.int .i64 kd) := hcs 0 _ rfl
  have k1 : w.cell? ⟨b, off + i * 3 + 1, none⟩ = some (.int .i64 nn) := hcs 1 _ rfl
  have k2 : w.cell? ⟨b, off + i * 3 + 2, none⟩ = some (.string tx) := hcs 2 _ rfl
  have i0 : (0 : Int) ≤ (i : Int) := by omega
  have i1 : (i : Int) < (L : Int) := by omega
  obtain ⟨r, hr⟩ : ∃ r, Hid (conE ⟨kd, nn, tx⟩ (l.take i) = r) := ⟨_, rfl⟩
  rw [unhide hr]
  have HN := hide (fun w => nan_any nn w)
  have hrf : Hid (rfB ⟨kd, nn, tx⟩ = if kd = 3 then (tx.toList.isEmpty && !badN nn) else if kd = 4 then decide (nn = 0) else false) := rfl
  clear hcs
  by_cases hbad : rfB ⟨kd, nn, tx⟩ = false
  · obtain rfl : r = 4 := by rw [← unhide hr]; unfold conE; rw [if_pos hbad]
    rw [unhide hrf] at hbad
    by_cases h3 : kd = 3
    · rw [if_pos h3] at hbad
      subst h3
      cases hte : tx.toList.isEmpty
      · clear hbad hrf
        go_enter Tryz.func63, Tryz.ntmps63
        go_wp2_with fail
        go_ret
        exact ⟨rfl, (Below.refl _ w).alloc (Nat.le_refl _) _⟩
      · have hbn : badN nn = true := by rw [hte] at hbad; simpa using hbad
        rw [hbn] at HN
        clear hbad hbn hrf
        go_enter Tryz.func63, Tryz.ntmps63
        go_wp2_with fail
        refine (unhide HN _).mono ?_
        rintro e w2 ⟨rfl, rfl⟩
        go_wp2_with fail
        go_ret
        exact ⟨rfl, (Below.refl _ w).alloc (Nat.le_refl _) _⟩
    · rw [if_neg h3] at hbad
      have q3 : (kd == 3) = false := beq_eq_false_iff_ne.2 h3
      have q3' : (kd != 3) = true := by rw [bne_iff_ne]; exact h3
      by_cases h4 : kd = 4
      · rw [if_pos h4] at hbad
        subst h4
        have hn0 : (nn != 0) = true := by rw [bne_iff_ne]; simpa using hbad
        clear h3 hbad hrf q3 q3'
        go_enter Tryz.func63, Tryz.ntmps63
        go_wp2_with fail
        go_ret
        exact ⟨rfl, (Below.refl _ w).alloc (Nat.le_refl _) _⟩
      · have q4' : (kd != 4) = true := by rw [bne_iff_ne]; exact h4
        clear h3 h4 hbad
        go_enter Tryz.func63, Tryz.ntmps63
        go_wp2_with fail
        go_ret
        exact ⟨rfl, (Below.refl _ w).alloc (Nat.le_refl _) _⟩
  · have hgood : rfB ⟨kd, nn, tx⟩ = true := by cases e : rfB ⟨kd, nn, tx⟩ with
      | true => rfl
      | false => exact absurd e hbad
    have hr2 : (if tx.size > 4096 then (5 : Int) else if ⟨kd, nn, tx⟩ ∈ l.take i then 15 else 0) = r := by rw [← unhide hr]; unfold conE; rw [if_neg hbad]
    rw [unhide hrf] at hgood
    have HR2 := hide hr2
    have HGO := hide hgood
    clear hbad hr2 hgood
    -- ahead of the loop
    have key : ∀ (K : Prop), ((kd = 3 ∧ tx.toList.isEmpty = true ∧ badN nn = false) → K) → ((kd = 4 ∧ nn = 0) → K) → K := fun K a b => by
      have hg := unhide HGO
      by_cases h3 : kd = 3
      · rw [if_pos h3] at hg
        simp only [Bool.and_eq_true, Bool.not_eq_true'] at hg
        exact a ⟨h3, hg.1, hg.2⟩
      · rw [if_neg h3] at hg
        by_cases h4 : kd = 4
        · rw [if_pos h4] at hg
          exact b ⟨h4, by simpa using hg⟩
        · rw [if_neg h4] at hg; cases hg
    refine key _ (fun ⟨h3, hte, hbn⟩ => ?_) (fun ⟨h4, hn⟩ => ?_)
    · subst h3
      rw [hbn] at HN
      clear hbn key HGO hrf hr
      by_cases h5 : tx.size > 4096
      · obtain rfl : r = 5 := by rw [← unhide HR2, if_pos h5]
        have k5 : (4096 : Int) < (tx.size : Int) := by omega
        go_enter Tryz.func63, Tryz.ntmps63
        go_wp2_with fail
        refine (unhide HN _).mono ?_
        rintro e w2 ⟨rfl, rfl⟩
        go_wp2_with fail
        go_ret
        exact ⟨rfl, (Below.refl _ w).alloc (Nat.le_refl _) _⟩
      · have hr3 := unhide HR2
        rw [if_neg h5] at hr3
        have HR3 := hide hr3
        have k5 : decide ((4096 : Int) < (tx.size : Int)) = false := decide_eq_false (by omega)
        clear hr3 HR2 h5
        go_enter Tryz.func63, Tryz.ntmps63
        go_wp2_with fail
        refine (unhide HN _).mono ?_
        rintro e w2 ⟨rfl, rfl⟩
        go_wp2_with fail
        go_loopg [6] i (fun gg t6 wr => ∃ (k : Nat), Hid (k + gg = i) ∧ t6 = .int .i64 (k : Int) ∧ Hid (Below (w.heap.size + 1) (w.alloc (.cells #[.int .i64 3, .int .i64 nn, .string tx] 69)) wr) ∧ Hid (∀ (j : Nat) (d : Cn), j < k → l[j]? = some d → d ≠ ⟨3, nn, tx⟩))
        case atStart => exact ⟨0, by unfold Hid; omega, rfl, Below.refl _ _, by unfold Hid; intro j d hj; omega⟩
        case round =>
          obtain ⟨k, hk, rfl, hB0, hM⟩ := hrel
          obtain ⟨hbx, hBw, hwl⟩ := boxN (unhide hB0)
          have x0 := hbx 0 _ rfl
          have x1 := hbx 1 _ rfl
          have x2 := hbx 2 _ rfl
          clear hbx
          by_cases hlt : k < i
          · obtain ⟨d, hd⟩ : ∃ d, l[k]? = some d := ⟨_, List.getElem?_eq_getElem (by rw [unhide hLL]; omega)⟩
            obtain ⟨_, _, _, e, _, _, _, dcs⟩ := unhide HC k d hd
            cases e
            obtain ⟨dk, dn, dt⟩ := d
            have y0 : wr.cell? ⟨b, off + k * 3, none⟩ = some (.int .i64 dk) := (hBw.cell (p := ⟨b, off + k * 3, none⟩) hb).trans (dcs 0 _ rfl)
            have y1 : wr.cell? ⟨b, off + k * 3 + 1, none⟩ = some (.int .i64 dn) := (hBw.cell (p := ⟨b, off + k * 3 + 1, none⟩) hb).trans (dcs 1 _ rfl)
            have y2 : wr.cell? ⟨b, off + k * 3 + 2, none⟩ = some (.string dt) := (hBw.cell (p := ⟨b, off + k * 3 + 2, none⟩) hb).trans (dcs 2 _ rfl)
            have hbr := Nat.lt_of_lt_of_le hb hBw.size
            have j0 : (0 : Int) ≤ (k : Int) := by omega
            have j1 : (k : Int) < (L : Int) := by omega
            have j2 : (k : Int) < (i : Int) := by omega
            have HD := hide hd
            have HBw := hide hBw
            clear dcs hd hBw
            by_cases he : (⟨dk, dn, dt⟩ : Cn) = ⟨3, nn, tx⟩
            · have hmem : (⟨3, nn, tx⟩ : Cn) ∈ l.take i := by
                rw [← he]
                exact List.mem_of_getElem? (i := k) (by rw [List.getElem?_take, if_pos hlt]; exact unhide HD)
              obtain rfl : r = 15 := by rw [← unhide HR3, if_pos hmem]
              simp only [Cn.mk.injEq] at he
              obtain ⟨rfl, rfl, rfl⟩ := he
              clear hmem
              go_wp2_with fail
              go_quiet (fail)
              go_wp2_with fail
              go_ret
              exact ⟨rfl, (unhide HBw).trans ((Fr.drewN (S := fun _ => False) nq).below (unhide HBw).size (fun _ _ e => e))⟩
            · have hM2 : Hid (∀ (j : Nat) (d : Cn), j < k + 1 → l[j]? = some d → d ≠ ⟨3, nn, tx⟩) := by
                intro j d' hj hd'
                by_cases q : j = k
                · subst q; rw [unhide HD] at hd'; cases hd'; exact he
                · exact unhide hM j d' (by omega) hd'
              by_cases e1 : dk = 3
              · subst e1
                by_cases e2 : dn = nn
                · subst e2
                  have e3 : (dt.toList == tx.toList) = false := by
                    rw [beq_eq_false_iff_ne]
                    intro e
                    apply he
                    rw [ByteArray.toList_eq, ByteArray.toList_eq] at e
                    have : dt = tx := by cases dt; cases tx; simp at e; simp [e]
                    rw [this]
                  clear he
                  go_wp2_with fail
                  go_quiet (fail)
                  have hB3 := hide ((unhide hB0).trans ((Fr.drewN (S := fun _ => False) nq).below hwl (fun _ _ e => e)))
                  go_wp2_with fail
                  go_roundg (gk - 1)
                  case measure => have := unhide hk; omega
                  case rel => exact ⟨k + 1, by have := unhide hk; unfold Hid; omega, by go_num, hB3, hM2⟩
                · have f2 : (dn == nn) = false := beq_eq_false_iff_ne.2 e2
                  clear he e2
                  go_wp2_with fail
                  go_quiet (fail)
                  have hB3 := hide ((unhide hB0).trans ((Fr.drewN (S := fun _ => False) nq).below hwl (fun _ _ e => e)))
                  go_wp2_with fail
                  go_roundg (gk - 1)
                  case measure => have := unhide hk; omega
                  case rel => exact ⟨k + 1, by have := unhide hk; unfold Hid; omega, by go_num, hB3, hM2⟩
              · have f1 : (dk == 3) = false := beq_eq_false_iff_ne.2 e1
                clear he e1
                go_wp2_with fail
                go_quiet (fail)
                have hB3 := hide ((unhide hB0).trans ((Fr.drewN (S := fun _ => False) nq).below hwl (fun _ _ e => e)))
                go_wp2_with fail
                go_roundg (gk - 1)
                case measure => have := unhide hk; omega
                case rel => exact ⟨k + 1, by have := unhide hk; unfold Hid; omega, by go_num, hB3, hM2⟩
          · have hkL : i = k := by have := unhide hk; omega
            subst hkL
            have hno : ¬ (⟨3, nn, tx⟩ : Cn) ∈ l.take i := fun hm => by
              obtain ⟨j, hj, e⟩ := List.getElem_of_mem hm
              have hji : j < i := by rw [List.length_take] at hj; omega
              have := List.getElem?_eq_getElem hj
              rw [e, List.getElem?_take, if_pos hji] at this
              exact unhide hM j _ hji this rfl
            obtain rfl : r = 0 := by rw [← unhide HR3, if_neg hno]
            clear hno
            go_wp2_with fail
            go_ret
            exact ⟨rfl, hBw⟩
    · subst h4 hn
      clear key HGO hrf hr HN
      by_cases h5 : tx.size > 4096
      · obtain rfl : r = 5 := by rw [← unhide HR2, if_pos h5]
        have k5 : (4096 : Int) < (tx.size : Int) := by omega
        go_enter Tryz.func63, Tryz.ntmps63
        go_wp2_with fail
        go_ret
        exact ⟨rfl, (Below.refl _ w).alloc (Nat.le_refl _) _⟩
      · have hr3 := unhide HR2
        rw [if_neg h5] at hr3
        have HR3 := hide hr3
        have k5 : decide ((4096 : Int) < (tx.size : Int)) = false := decide_eq_false (by omega)
        clear hr3 HR2 h5
        go_enter Tryz.func63, Tryz.ntmps63
        go_wp2_with fail
        go_loopg [6] i (fun gg t6 wr => ∃ (k : Nat), Hid (k + gg = i) ∧ t6 = .int .i64 (k : Int) ∧ Hid (Below (w.heap.size + 1) (w.alloc (.cells #[.int .i64 4, .int .i64 0, .string tx] 69)) wr) ∧ Hid (∀ (j : Nat) (d : Cn), j < k → l[j]? = some d → d ≠ ⟨4, 0, tx⟩))
        case atStart => exact ⟨0, by unfold Hid; omega, rfl, Below.refl _ _, by unfold Hid; intro j d hj; omega⟩
        case round =>
          obtain ⟨k, hk, rfl, hB0, hM⟩ := hrel
          obtain ⟨hbx, hBw, hwl⟩ := boxN (unhide hB0)
          have x0 := hbx 0 _ rfl
          have x1 := hbx 1 _ rfl
          have x2 := hbx 2 _ rfl
          clear hbx
          by_cases hlt : k < i
          · obtain ⟨d, hd⟩ : ∃ d, l[k]? = some d := ⟨_, List.getElem?_eq_getElem (by rw [unhide hLL]; omega)⟩
            obtain ⟨_, _, _, e, _, _, _, dcs⟩ := unhide HC k d hd
            cases e
            obtain ⟨dk, dn, dt⟩ := d
            have y0 : wr.cell? ⟨b, off + k * 3, none⟩ = some (.int .i64 dk) := (hBw.cell (p := ⟨b, off + k * 3, none⟩) hb).trans (dcs 0 _ rfl)
            have y1 : wr.cell? ⟨b, off + k * 3 + 1, none⟩ = some (.int .i64 dn) := (hBw.cell (p := ⟨b, off + k * 3 + 1, none⟩) hb).trans (dcs 1 _ rfl)
            have y2 : wr.cell? ⟨b, off + k * 3 + 2, none⟩ = some (.string dt) := (hBw.cell (p := ⟨b, off + k * 3 + 2, none⟩) hb).trans (dcs 2 _ rfl)
            have hbr := Nat.lt_of_lt_of_le hb hBw.size
            have j0 : (0 : Int) ≤ (k : Int) := by omega
            have j1 : (k : Int) < (L : Int) := by omega
            have j2 : (k : Int) < (i : Int) := by omega
            have HD := hide hd
            have HBw := hide hBw
            clear dcs hd hBw
            by_cases he : (⟨dk, dn, dt⟩ : Cn) = ⟨4, 0, tx⟩
            · have hmem : (⟨4, 0, tx⟩ : Cn) ∈ l.take i := by
                rw [← he]
                exact List.mem_of_getElem? (i := k) (by rw [List.getElem?_take, if_pos hlt]; exact unhide HD)
              obtain rfl : r = 15 := by rw [← unhide HR3, if_pos hmem]
              simp only [Cn.mk.injEq] at he
              obtain ⟨rfl, rfl, rfl⟩ := he
              clear hmem
              go_wp2_with fail
              go_quiet (fail)
              go_wp2_with fail
              go_ret
              exact ⟨rfl, (unhide HBw).trans ((Fr.drewN (S := fun _ => False) nq).below (unhide HBw).size (fun _ _ e => e))⟩
            · have hM2 : Hid (∀ (j : Nat) (d : Cn), j < k + 1 → l[j]? = some d → d ≠ ⟨4, 0, tx⟩) := by
                intro j d' hj hd'
                by_cases q : j = k
                · subst q; rw [unhide HD] at hd'; cases hd'; exact he
                · exact unhide hM j d' (by omega) hd'
              by_cases e1 : dk = 4
              · subst e1
                by_cases e2 : dn = 0
                · subst e2
                  have e3 : (dt.toList == tx.toList) = false := by
                    rw [beq_eq_false_iff_ne]
                    intro e
                    apply he
                    rw [ByteArray.toList_eq, ByteArray.toList_eq] at e
                    have : dt = tx := by cases dt; cases tx; simp at e; simp [e]
                    rw [this]
                  clear he
                  go_wp2_with fail
                  go_quiet (fail)
                  have hB3 := hide ((unhide hB0).trans ((Fr.drewN (S := fun _ => False) nq).below hwl (fun _ _ e => e)))
                  go_wp2_with fail
                  go_roundg (gk - 1)
                  case measure => have := unhide hk; omega
                  case rel => exact ⟨k + 1, by have := unhide hk; unfold Hid; omega, by go_num, hB3, hM2⟩
                · have f2 : (dn == 0) = false := beq_eq_false_iff_ne.2 e2
                  clear he e2
                  go_wp2_with fail
                  go_quiet (fail)
                  have hB3 := hide ((unhide hB0).trans ((Fr.drewN (S := fun _ => False) nq).below hwl (fun _ _ e => e)))
                  go_wp2_with fail
                  go_roundg (gk - 1)
                  case measure => have := unhide hk; omega
                  case rel => exact ⟨k + 1, by have := unhide hk; unfold Hid; omega, by go_num, hB3, hM2⟩
              · have f1 : (dk == 4) = false := beq_eq_false_iff_ne.2 e1
                clear he e1
                go_wp2_with fail
                go_quiet (fail)
                have hB3 := hide ((unhide hB0).trans ((Fr.drewN (S := fun _ => False) nq).below hwl (fun _ _ e => e)))
                go_wp2_with fail
                go_roundg (gk - 1)
                case measure => have := unhide hk; omega
                case rel => exact ⟨k + 1, by have := unhide hk; unfold Hid; omega, by go_num, hB3, hM2⟩
          · have hkL : i = k := by have := unhide hk; omega
            subst hkL
            have hno : ¬ (⟨4, 0, tx⟩ : Cn) ∈ l.take i := fun hm => by
              obtain ⟨j, hj, e⟩ := List.getElem_of_mem hm
              have hji : j < i := by rw [List.length_take] at hj; omega
              have := List.getElem?_eq_getElem hj
              rw [e, List.getElem?_take, if_pos hji] at this
              exact unhide hM j _ hji this rfl
            obtain rfl : r = 0 := by rw [← unhide HR3, if_neg hno]
            clear hno
            go_wp2_with fail
            go_ret
            exact ⟨rfl, hBw⟩
end
set_option maxRecDepth 100000 in
set_option maxHeartbeats 6400000 in
theorem names_any {w : World} {pv : Value} {p : Pg} {f : Fc} {x : Fv} (hp : PgV w pv p) (hx : FnV w f x) (op a : Int) (ha : kdI op = 4 → 0 ≤ a) : Calls Tryz.prog 111 #[pv, .agg #[.string x.name, .int .i64 x.params, .int .i64 x.locals, x.cv, x.hv], .agg #[.int .i64 op, .int .i64 a]] w fun e w' => e = .returned (.bool (nmB p f op a)) ∧ Below w.heap.size w w' := by
  obtain ⟨cv, fv, rfl, hc, hf⟩ := hp
  have HC := hide (fun i q (hq : p.consts[i]? = some q) => hc.elem zC hq)
  obtain ⟨_, ca, ccap, rfl, _, _, _⟩ := hc
  obtain ⟨xs, hx1, ⟨_, fa, fcap, rfl, _, _, _⟩, _⟩ := hf
  obtain ⟨a1, c1, a2, c2, rfl⟩ := hx.parts
  simp only
  clear hx
  rw [hx1]
  obtain ⟨r, hr⟩ : ∃ r, Hid (nmB p f op a = r) := ⟨_, rfl⟩
  rw [unhide hr]
  have hr' := unhide hr
  unfold nmB at hr'
  obtain ⟨NC, hNC⟩ : ∃ n, p.consts.length = n := ⟨_, rfl⟩
  obtain ⟨NF, hNF⟩ : ∃ n, p.funcs.length = n := ⟨_, rfl⟩
  obtain ⟨CL, hCL⟩ : ∃ n, f.code.length = n := ⟨_, rfl⟩
  rw [hNC] at HC hr' ⊢
  rw [hNF] at hr' ⊢
  rw [hCL] at hr' ⊢
  have HO := hide (dOperand_any (((w.alloc (.cells #[.slice ca NC ccap, .slice fa NF fcap] 25)).alloc (.cells #[.string f.name, .int .i64 f.params, .int .i64 f.locals, .slice a1 CL c1, .slice a2 f.hs.length c2] 73)).alloc (.cells #[.int .i64 op, .int .i64 a] 92)) op)
  obtain ⟨t1, t2, t3, t4, t5⟩ := three_boxes w #[.slice ca NC ccap, .slice fa NF fcap] #[.string f.name, .int .i64 f.params, .int .i64 f.locals, .slice a1 CL c1, .slice a2 f.hs.length c2] #[.int .i64 op, .int .i64 a] 25 73 92
  have HT := hide (And.intro t1 (And.intro t2 (And.intro t3 (And.intro t4 t5))))
  obtain ⟨kq, hkq⟩ : ∃ q, kdI op = q := ⟨_, rfl⟩
  rw [hkq] at HO hr' ha
  obtain ⟨oq, hoq⟩ : ∃ q, isOp op = q := ⟨_, rfl⟩
  rw [hoq] at HO
  have HR := hide hr'
  clear t1 t2 t3 t4 t5 hr hr' hkq hoq hNF hCL hx1
  go_enter Tryz.func111, Tryz.ntmps111
  go_wp2_with fail
  refine (unhide HO).mono ?_
  rintro e w2 ⟨rfl, hb2⟩
  have b2 : Below (w.heap.size + 3) (((w.alloc (.cells #[.slice ca NC ccap, .slice fa NF fcap] 25)).alloc (.cells #[.string f.name, .int .i64 f.params, .int .i64 f.locals, .slice a1 CL c1, .slice a2 f.hs.length c2] 73)).alloc (.cells #[.int .i64 op, .int .i64 a] 92)) w2 := hb2.mono (by rw [(unhide HT).2.2.2.2]; exact Nat.le_refl _)
  have p0 := (b2.cell (p := ⟨w.heap.size, 0, none⟩) (by simp)).trans ((unhide HT).1 0)
  have p1 := (b2.cell (p := ⟨w.heap.size, 1, none⟩) (by simp)).trans ((unhide HT).1 1)
  have q2 := (b2.cell (p := ⟨w.heap.size + 1, 2, none⟩) (by simp)).trans ((unhide HT).2.1 2)
  have q3 := (b2.cell (p := ⟨w.heap.size + 1, 3, none⟩) (by simp)).trans ((unhide HT).2.1 3)
  have r0 := (b2.cell (p := ⟨w.heap.size + 1 + 1, 0, none⟩) (by simp)).trans ((unhide HT).2.2.1 0)
  have r1 := (b2.cell (p := ⟨w.heap.size + 1 + 1, 1, none⟩) (by simp)).trans ((unhide HT).2.2.1 1)
  simp only [List.getElem?_toArray, List.getElem?_cons_zero, List.getElem?_cons_succ] at p0 p1 q2 q3 r0 r1
  have hBB := hide ((unhide HT).2.2.2.1.trans (b2.mono (by omega)))
  clear hb2 b2 HO HT
  by_cases h2 : kq = 2
  · subst h2
    obtain rfl := unhide HR
    (clear HR; go_wp2_with fail; go_ret; exact ⟨by first | rfl | simp, unhide hBB⟩)
  · by_cases h3 : kq = 3
    · subst h3
      obtain rfl := unhide HR
      (clear HR; go_wp2_with fail; go_ret; exact ⟨by first | rfl | simp, unhide hBB⟩)
    · by_cases h5 : kq = 5
      · subst h5
        obtain rfl := unhide HR
        (clear HR; go_wp2_with fail; go_ret; exact ⟨by first | rfl | simp, unhide hBB⟩)
      · by_cases h4 : kq = 4
        · subst h4
          have ha0 := ha rfl
          by_cases hl : a < (NC : Int)
          · by_cases h55 : op = 5
            · subst h55
              obtain rfl : r = true := by have := unhide HR; simp [hl] at this; exact this
              (clear HR; go_wp2_with fail; go_ret; exact ⟨by first | rfl | simp, unhide hBB⟩)
            · have k5 : (op == 5) = false := beq_eq_false_iff_ne.2 h55
              obtain ⟨n, rfl⟩ : ∃ n : Nat, a = (n : Int) := ⟨a.toNat, by omega⟩
              obtain ⟨cc, hcc⟩ : ∃ c, p.consts[n]? = some c := ⟨_, List.getElem?_eq_getElem (by omega)⟩
              obtain ⟨b, off, _, e, _, _, hb, cs⟩ := unhide HC n cc hcc
              cases e
              obtain rfl : r = (cc.kind == 4) := by
                have := unhide HR
                simp only [if_pos hl, if_neg h55] at this
                rw [← this]
                simp [ckB, hcc]
              have y0 : w2.cell? ⟨b, off + n * 3, none⟩ = some (.int .i64 cc.kind) := ((unhide hBB).cell (p := ⟨b, off + n * 3, none⟩) hb).trans (cs 0 _ rfl)
              have hbr := Nat.lt_of_lt_of_le hb (unhide hBB).size
              clear cs hcc
              (clear HR; go_wp2_with fail; go_ret; exact ⟨by first | rfl | simp, unhide hBB⟩)
          · obtain rfl : r = false := by have := unhide HR; simp [hl] at this; exact this
            have kl : decide (a < (NC : Int)) = false := decide_eq_false hl
            have kl' : (NC : Int) ≤ a := by omega
            (clear HR; go_wp2_with fail; go_ret; exact ⟨by first | rfl | simp, unhide hBB⟩)
        · obtain rfl : r = true := by have := unhide HR; simp [h2, h3, h4, h5] at this; exact this
          have z2 : (kq == 2) = false := beq_eq_false_iff_ne.2 h2
          have z3 : (kq == 3) = false := beq_eq_false_iff_ne.2 h3
          have z4 : (kq == 4) = false := beq_eq_false_iff_ne.2 h4
          have z5 : (kq == 5) = false := beq_eq_false_iff_ne.2 h5
          (clear HR; go_wp2_with fail; go_ret; exact ⟨by first | rfl | simp, unhide hBB⟩)

set_option linter.unusedVariables false
set_option linter.unusedSimpArgs false
end Go.Proofs.YtlogmdldjmkkjaaGreatDoor
