/-
  The law InternKinds.
-/
import Derived.Test.YthmcalapofjmfabKX
namespace Go.Proofs.Ythmcalapofjmfab
open Go.RowKit Go.Maps
set_option linter.unusedVariables false

/-- A list of numbers as it came in. -/
def Zs (w : World) (a : Option Addr) (zs : List Int) : Prop := ∀ i, i < zs.length → ∃ b o, a = some ⟨b, o, none⟩ ∧ b < w.heap.size ∧ w.cell? ⟨b, o + i, none⟩ = some (.int .i64 (zs.getD i 0))

theorem valP_k {k : Nat} (h : k < 4) : valP k = .agg #[.int .i64 ((k : Int) / 2), .int .i64 ((k : Int) % 2)] := by
  match k, h with
  | 0, _ => rfl
  | 1, _ => rfl
  | 2, _ => rfl
  | 3, _ => rfl
theorem valB_k {k : Nat} (h : k < 4) : valB k = .agg #[.bool ((k : Int) / 2 == 1), .bool ((k : Int) % 2 == 1)] := by
  match k, h with
  | 0, _ => rfl
  | 1, _ => rfl
  | 2, _ => rfl
  | 3, _ => rfl
theorem valI_k {k : Nat} (h : k < 4) : valI k = .int .i8 ((k : Int) - 2) := by
  match k, h with
  | 0, _ => rfl
  | 1, _ => rfl
  | 2, _ => rfl
  | 3, _ => rfl
theorem KX.at {w0 w wq : World} {P : Nat → Nat} {Q : Nat → Prop} {k0 k1 k2 k3 : List Nat} (h : KX w0 P wq Q k0 k1 k2 k3 w) {k : Nat} (hk : k < 4) : Calls Try.prog 20 #[.pointer (some ⟨P 1, 0, none⟩), .int .i64 ((num k1 k : Nat) : Int)] w fun e w' =>
    ∃ x y ok, e = .returned (.tuple #[.agg #[.int .i64 x, .int .i64 y], .bool ok]) ∧ (ok = true → x = (k : Int) / 2 ∧ y = (k : Int) % 2) ∧ KX w0 P wq Q k0 k1 k2 k3 w' := by
  cases e : idx k1 k with
  | some i =>
    rw [(ins_old e).2]
    have := h.atIn i (idx_some e).1
    rw [(idx_some e).2, valP_k hk] at this
    exact this.mono (fun e w' ⟨q1, q2⟩ => ⟨_, _, _, q1, fun _ => ⟨rfl, rfl⟩, q2⟩)
  | none =>
    rw [(ins_new e).2]
    have := h.small
    exact (h.atOut k1.length (Nat.le_refl _) (by omega)).mono (fun e w' ⟨q1, q2⟩ => ⟨_, _, _, q1, (by intro q; cases q), q2⟩)
theorem num_small {w0 w wq : World} {P : Nat → Nat} {Q : Nat → Prop} {k0 k1 k2 k3 : List Nat} (h : KX w0 P wq Q k0 k1 k2 k3 w) (k : Nat) : num k1 k ≤ 4 := by
  have := h.small
  cases e : idx k1 k with
  | some i => rw [(ins_old e).2]; have := (idx_some e).1; omega
  | none => rw [(ins_new e).2]; omega
theorem box_cells (w : World) (x y u v : Value) : ((w.alloc (.cells #[x, y] 28)).alloc (.cells #[u, v] 34)).cell? ⟨w.heap.size, 0, none⟩ = some x ∧ ((w.alloc (.cells #[x, y] 28)).alloc (.cells #[u, v] 34)).cell? ⟨w.heap.size, 1, none⟩ = some y ∧ ((w.alloc (.cells #[x, y] 28)).alloc (.cells #[u, v] 34)).cell? ⟨w.heap.size + 1, 0, none⟩ = some u ∧ ((w.alloc (.cells #[x, y] 28)).alloc (.cells #[u, v] 34)).cell? ⟨w.heap.size + 1, 1, none⟩ = some v := by
  have h1 := heap_alloc_new w (.cells #[x, y] 28)
  have h2 := heap_alloc_new (w.alloc (.cells #[x, y] 28)) (.cells #[u, v] 34)
  have h3 := Below.heap_alloc (w.alloc (.cells #[x, y] 28)) (.cells #[u, v] 34) w.heap.size (by simp)
  rw [h1] at h3
  have h4 : (w.alloc (.cells #[x, y] 28)).heap.size = w.heap.size + 1 := by simp
  rw [h4] at h2
  simp only [World.cell?, h2, h3]
  exact ⟨rfl, rfl, rfl, rfl⟩
/-- The four, of one and the same list. -/
def KY (w0 : World) (P : Nat → Nat) (ks : List Nat) (w : World) : Prop := ∃ wq Q, KX w0 P wq Q ks ks ks ks w
theorem pick_bound (z : Int) : pick z 4 < 4 := pick_lt z (by omega)

set_option maxRecDepth 100000 in
set_option maxHeartbeats 6400000 in
theorem kinds_any {w : World} {a : Option Addr} {cap : Nat} {zs : List Int} (hz : Zs w a zs) (hm : zs.length ≤ maxLen) : Calls Try.prog 3 #[.slice a zs.length cap] w fun e w' => e = .returned (.bool true) ∧ Below w.heap.size w w' := by
  have HZ := hide hz
  clear hz
  unfold maxLen at hm
  obtain ⟨n, hn⟩ : ∃ n, Hid (zs.length = n) := ⟨_, rfl⟩
  rw [unhide hn] at hm ⊢
  have h1 := hide (newS_any w)
  go_enter Try.func3, Try.ntmps3
  go_wp2_with fail
  refine (unhide h1).mono ?_
  rintro e w1 ⟨rfl, i1, b1⟩
  clear h1
  have I1 := hide i1
  have B1 := hide b1
  clear i1 b1
  have h1 := hide (newP_any w1)
  go_wp2_with fail
  refine (unhide h1).mono ?_
  rintro e w2 ⟨rfl, i2, b2⟩
  clear h1
  have I2 := hide i2
  have B2 := hide b2
  clear i2 b2
  have h1 := hide (newI_any w2)
  go_wp2_with fail
  refine (unhide h1).mono ?_
  rintro e w3 ⟨rfl, i3, b3⟩
  clear h1
  have I3 := hide i3
  have B3 := hide b3
  clear i3 b3
  have h1 := hide (newB_any w3)
  go_wp2_with fail
  refine (unhide h1).mono ?_
  rintro e w4 ⟨rfl, i4, b4⟩
  clear h1
  have HK := hide (KX.made (unhide I1) (unhide B1) (unhide I2) (unhide B2) (unhide I3) (unhide B3) i4 b4)
  clear I1 I2 I3 i4 B1 B2 B3 b4
  obtain ⟨P, eP, e0, e1, e2, e3⟩ : ∃ P : Nat → Nat, P = four (w.heap.size + 1) (w1.heap.size + 1) (w2.heap.size + 1) (w3.heap.size + 1) ∧ w.heap.size + 1 = P 0 ∧ w1.heap.size + 1 = P 1 ∧ w2.heap.size + 1 = P 2 ∧ w3.heap.size + 1 = P 3 := ⟨_, rfl, rfl, rfl, rfl, rfl⟩
  rw [← eP] at HK
  rw [e0, e1, e2, e3]
  clear eP e0 e1 e2 e3
  obtain ⟨p0, e0⟩ : ∃ p, Hid (P 0 = p) := ⟨_, rfl⟩
  obtain ⟨p1, e1⟩ : ∃ p, Hid (P 1 = p) := ⟨_, rfl⟩
  obtain ⟨p2, e2⟩ : ∃ p, Hid (P 2 = p) := ⟨_, rfl⟩
  obtain ⟨p3, e3⟩ : ∃ p, Hid (P 3 = p) := ⟨_, rfl⟩
  rw [unhide e0, unhide e1, unhide e2, unhide e3]
  have h1 := hide (lives_any w4)
  go_wp2_with fail
  refine (unhide h1).mono ?_
  rintro e w5 ⟨rfl, b5⟩
  have HK := hide ((unhide HK).below b5)
  clear h1 b5
  go_wp2_with fail
  go_loopg [7] n (fun k s wr => ∃ (j : Nat) (ks : List Nat), Hid (j + k = n) ∧ s = .int .i64 j ∧ Hid (KY w P ks wr))
  case atStart => exact ⟨0, [], by unfold Hid; omega, rfl, _, _, unhide HK⟩
  case round =>
    obtain ⟨j, ks, hj, rfl, HY⟩ := hrel
    clear HK
    by_cases hlt : j < n
    · obtain ⟨b, o, rfl, hb, hc⟩ := unhide HZ j (by rw [unhide hn]; exact hlt)
      obtain ⟨z, ez⟩ : ∃ z, zs.getD j 0 = z := ⟨_, rfl⟩
      rw [ez] at hc
      clear ez
      have c1 : wr.cell? ⟨b, o + j, none⟩ = some (.int .i64 z) := by
        obtain ⟨wq, Q, h⟩ := unhide HY
        exact (h.bel.cell (p := ⟨b, o + j, none⟩) hb).trans hc
      have i0 : (0 : Int) ≤ (j : Int) := by omega
      have i1 : (j : Int) < (n : Int) := by omega
      have h1 := hide (pick4_any wr z)
      have hk := pick_bound z
      obtain ⟨k, ek⟩ : ∃ k, pick z 4 = k := ⟨_, rfl⟩
      rw [ek] at h1 hk
      clear ek
      go_wp2_with fail
      refine (unhide h1).mono ?_
      rintro e wa ⟨rfl, ew⟩
      rw [ew]
      clear h1 ew wa
      have h1 := hide (number_any wr k hk)
      go_wp2_with fail
      refine (unhide h1).mono ?_
      rintro e wn ⟨rfl, bn⟩
      have c2 : wn.cell? ⟨b, o + j, none⟩ = some (.int .i64 z) := (bn.cell (p := ⟨b, o + j, none⟩) (World.block_lt_of_cell? _ _ c1)).trans c1
      have hbn : b < wn.heap.size := World.block_lt_of_cell? _ _ c2
      obtain ⟨wq, Q, hX0⟩ := unhide HY
      have HX := hide ((hX0.below bn).snap (w' := ((wn.alloc (.cells #[.int .i64 ((k : Int) / 2), .int .i64 ((k : Int) % 2)] 28)).alloc (.cells #[.bool ((k : Int) / 2 == 1), .bool ((k : Int) % 2 == 1)] 34))) (((Below.refl _ _).alloc (Nat.le_refl _) _).alloc (by simp) _) (fun x => x = wn.heap.size ∨ x = wn.heap.size + 1) (fun x hx => ⟨.inr (by omega), by simp; omega⟩))
      clear h1 bn c1 hX0 HY
      obtain ⟨W, eW⟩ : ∃ W, W = ((wn.alloc (.cells #[.int .i64 ((k : Int) / 2), .int .i64 ((k : Int) % 2)] 28)).alloc (.cells #[.bool ((k : Int) / 2 == 1), .bool ((k : Int) % 2 == 1)] 34)) := ⟨_, rfl⟩
      have PC : Hid (W.cell? ⟨wn.heap.size, 0, none⟩ = some (.int .i64 ((k : Int) / 2)) ∧ W.cell? ⟨wn.heap.size, 1, none⟩ = some (.int .i64 ((k : Int) % 2)) ∧ W.cell? ⟨wn.heap.size + 1, 0, none⟩ = some (.bool ((k : Int) / 2 == 1)) ∧ W.cell? ⟨wn.heap.size + 1, 1, none⟩ = some (.bool ((k : Int) % 2 == 1))) := by
        rw [eW]
        exact box_cells wn _ _ _ _
      rw [← eW] at HX
      have eW := hide eW
      by_cases hz0 : z < 0
      · go_wp2_with fail
        rw [← unhide eW]
        clear eW c2
        have h1 := hide ((unhide HX).cuta k)
        rw [unhide e0] at h1
        go_wp2_with fail
        refine (unhide h1).mono ?_
        rintro e wa ⟨rfl, hx⟩
        clear h1 HX
        have HX := hide hx
        clear hx
        have h1 := hide ((unhide HX).cutb k)
        rw [unhide e1] at h1
        go_wp2_with fail
        refine (unhide h1).mono ?_
        rintro e wb ⟨rfl, hx⟩
        clear h1 HX
        have HX := hide hx
        clear hx
        have h1 := hide ((unhide HX).cutc k)
        rw [unhide e2] at h1
        go_wp2_with fail
        refine (unhide h1).mono ?_
        rintro e wc ⟨rfl, hx⟩
        clear h1 HX
        have HX := hide hx
        clear hx
        have h1 := hide ((unhide HX).cutd k)
        rw [unhide e3] at h1
        go_wp2_with fail
        refine (unhide h1).mono ?_
        rintro e wd ⟨rfl, hx⟩
        clear h1 HX
        have HX := hide hx
        clear hx
        obtain ⟨g, eg⟩ : ∃ g, Hid ((idx (ks.take k) k).getD 0 = g) := ⟨_, rfl⟩
        obtain ⟨f, ef⟩ : ∃ f, Hid ((idx (ks.take k) k).isSome = f) := ⟨_, rfl⟩
        have h1 := hide ((unhide HX).finda k hk)
        rw [unhide e0, unhide eg, unhide ef] at h1
        go_wp2_with fail
        refine (unhide h1).mono ?_
        rintro e we ⟨rfl, hx⟩
        clear h1 HX
        have HX := hide hx
        clear hx
        have pc0 : we.cell? ⟨wn.heap.size, 0, none⟩ = some (.int .i64 ((k : Int) / 2)) := ((unhide HX).cell (.inl rfl)).trans (unhide PC).1
        have pc1 : we.cell? ⟨wn.heap.size, 1, none⟩ = some (.int .i64 ((k : Int) % 2)) := ((unhide HX).cell (.inl rfl)).trans (unhide PC).2.1
        have h1 := hide ((unhide HX).findb k hk)
        rw [unhide e1, unhide eg, unhide ef, valP_k hk] at h1
        go_wp2_with fail
        refine (unhide h1).mono ?_
        rintro e wf ⟨rfl, hx⟩
        clear h1 HX
        have HX := hide hx
        clear hx
        clear pc0 pc1
        have h1 := hide ((unhide HX).findc k hk)
        rw [unhide e2, unhide eg, unhide ef, valI_k hk] at h1
        go_wp2_with fail
        refine (unhide h1).mono ?_
        rintro e wg ⟨rfl, hx⟩
        clear h1 HX
        have HX := hide hx
        clear hx
        have pc2 : wg.cell? ⟨wn.heap.size + 1, 0, none⟩ = some (.bool ((k : Int) / 2 == 1)) := ((unhide HX).cell (.inr rfl)).trans (unhide PC).2.2.1
        have pc3 : wg.cell? ⟨wn.heap.size + 1, 1, none⟩ = some (.bool ((k : Int) % 2 == 1)) := ((unhide HX).cell (.inr rfl)).trans (unhide PC).2.2.2
        have h1 := hide ((unhide HX).findd k hk)
        rw [unhide e3, unhide eg, unhide ef, valB_k hk] at h1
        go_wp2_with fail
        refine (unhide h1).mono ?_
        rintro e wh ⟨rfl, hx⟩
        clear h1 HX
        have HX := hide hx
        clear hx
        clear pc2 pc3
        go_wp2_with fail
        go_roundg (gk - 1)
        case measure => have := unhide hj; omega
        case rel => exact ⟨j + 1, ks.take k, by have := unhide hj; unfold Hid; omega, by go_num, _, _, unhide HX⟩
      · go_wp2_with fail
        rw [← unhide eW]
        clear eW c2
        have hnm := num_small (unhide HX) k
        obtain ⟨m, em⟩ : ∃ m, Hid (num ks k = m) := ⟨_, rfl⟩
        rw [unhide em] at hnm
        have h1 := hide ((unhide HX).adda k hk)
        rw [unhide e0, unhide em] at h1
        go_wp2_with fail
        refine (unhide h1).mono ?_
        rintro e wa ⟨rfl, hx⟩
        clear h1 HX
        have HX := hide hx
        clear hx
        have h1 := hide ((unhide HX).at hk)
        rw [unhide e1, unhide em] at h1
        go_wp2_with fail
        refine (unhide h1).mono ?_
        rintro e wb ⟨x, y, ok, rfl, hok, hx⟩
        have HOK := hide hok
        clear h1 HX hok
        have hs1 : wn.heap.size + 1 < wb.heap.size := by
          obtain ⟨B, V, _, q⟩ := hx
          exact Nat.lt_of_lt_of_le (q.lt (wn.heap.size + 1) (.inr rfl)) q.sz
        have PD : Hid ((wb.alloc (.cells #[.int .i64 x, .int .i64 y] 28)).cell? ⟨wn.heap.size, 0, none⟩ = some (.int .i64 ((k : Int) / 2)) ∧ (wb.alloc (.cells #[.int .i64 x, .int .i64 y] 28)).cell? ⟨wn.heap.size, 1, none⟩ = some (.int .i64 ((k : Int) % 2)) ∧ (wb.alloc (.cells #[.int .i64 x, .int .i64 y] 28)).cell? ⟨wn.heap.size + 1, 0, none⟩ = some (.bool ((k : Int) / 2 == 1)) ∧ (wb.alloc (.cells #[.int .i64 x, .int .i64 y] 28)).cell? ⟨wn.heap.size + 1, 1, none⟩ = some (.bool ((k : Int) % 2 == 1)) ∧ (wb.alloc (.cells #[.int .i64 x, .int .i64 y] 28)).cell? ⟨wb.heap.size, 0, none⟩ = some (.int .i64 x) ∧ (wb.alloc (.cells #[.int .i64 x, .int .i64 y] 28)).cell? ⟨wb.heap.size, 1, none⟩ = some (.int .i64 y)) := by
          have hB : Below wb.heap.size wb (wb.alloc (.cells #[.int .i64 x, .int .i64 y] 28)) := (Below.refl _ _).alloc (Nat.le_refl _) _
          have hg := heap_alloc_new wb (.cells #[.int .i64 x, .int .i64 y] 28)
          refine ⟨(hB.cell (p := ⟨wn.heap.size, 0, none⟩) (by show wn.heap.size < _; omega)).trans ((hx.cell (.inl rfl)).trans (unhide PC).1), (hB.cell (p := ⟨wn.heap.size, 1, none⟩) (by show wn.heap.size < _; omega)).trans ((hx.cell (.inl rfl)).trans (unhide PC).2.1), (hB.cell (p := ⟨wn.heap.size + 1, 0, none⟩) (by show wn.heap.size + 1 < _; omega)).trans ((hx.cell (.inr rfl)).trans (unhide PC).2.2.1), (hB.cell (p := ⟨wn.heap.size + 1, 1, none⟩) (by show wn.heap.size + 1 < _; omega)).trans ((hx.cell (.inr rfl)).trans (unhide PC).2.2.2), ?_, ?_⟩
          · simp only [World.cell?, hg]; rfl
          · simp only [World.cell?, hg]; rfl
        have HX := hide (hx.snap (w' := wb.alloc (.cells #[.int .i64 x, .int .i64 y] 28)) ((Below.refl _ _).alloc (Nat.le_refl _) _) (fun x => (x = wn.heap.size ∨ x = wn.heap.size + 1) ∨ x = wb.heap.size) (fun x hx => ⟨hx.elim .inl (fun q => .inr (by omega)), by simp; omega⟩))
        clear hx PC
        have h1 := hide ((unhide HX).addb k hk)
        rw [unhide e1, unhide em, valP_k hk] at h1
        have pc0 := (unhide PD).1
        have pc1 := (unhide PD).2.1
        have hs0 : wn.heap.size < wb.heap.size := by omega
        go_wp2_with fail
        refine (unhide h1).mono ?_
        rintro e wc ⟨rfl, hx⟩
        clear h1 HX pc0 pc1
        have HX := hide hx
        clear hx
        have h1 := hide ((unhide HX).addc k hk)
        rw [unhide e2, unhide em, valI_k hk] at h1
        go_wp2_with fail
        refine (unhide h1).mono ?_
        rintro e wd ⟨rfl, hx⟩
        clear h1 HX
        have HX := hide hx
        clear hx
        have pc2 : wd.cell? ⟨wn.heap.size + 1, 0, none⟩ = some (.bool ((k : Int) / 2 == 1)) := ((unhide HX).cell (.inl (.inr rfl))).trans (unhide PD).2.2.1
        have pc3 : wd.cell? ⟨wn.heap.size + 1, 1, none⟩ = some (.bool ((k : Int) % 2 == 1)) := ((unhide HX).cell (.inl (.inr rfl))).trans (unhide PD).2.2.2.1
        have h1 := hide ((unhide HX).addd k hk)
        rw [unhide e3, unhide em, valB_k hk] at h1
        go_wp2_with fail
        refine (unhide h1).mono ?_
        rintro e we ⟨rfl, hx⟩
        clear h1 HX
        have HX := hide hx
        clear hx
        clear pc2 pc3
        have pc0 : we.cell? ⟨wn.heap.size, 0, none⟩ = some (.int .i64 ((k : Int) / 2)) := ((unhide HX).cell (.inl (.inl rfl))).trans (unhide PD).1
        have pc1 : we.cell? ⟨wn.heap.size, 1, none⟩ = some (.int .i64 ((k : Int) % 2)) := ((unhide HX).cell (.inl (.inl rfl))).trans (unhide PD).2.1
        have pc4 : we.cell? ⟨wb.heap.size, 0, none⟩ = some (.int .i64 x) := ((unhide HX).cell (.inr rfl)).trans (unhide PD).2.2.2.2.1
        have pc5 : we.cell? ⟨wb.heap.size, 1, none⟩ = some (.int .i64 y) := ((unhide HX).cell (.inr rfl)).trans (unhide PD).2.2.2.2.2
        cases ok with
        | true =>
          obtain ⟨ex, ey⟩ := unhide HOK rfl
          rw [ex] at pc4
          rw [ey] at pc5
          clear ex ey HOK PD
          go_wp2_with fail
          go_roundg (gk - 1)
          case measure => have := unhide hj; omega
          case rel => exact ⟨j + 1, ins ks k, by have := unhide hj; unfold Hid; omega, by go_num, _, _, unhide HX⟩
        | false =>
          clear HOK PD
          go_wp2_with fail
          go_roundg (gk - 1)
          case measure => have := unhide hj; omega
          case rel => exact ⟨j + 1, ins ks k, by have := unhide hj; unfold Hid; omega, by go_num, _, _, unhide HX⟩
    · -- end
      obtain ⟨wq, Q, hX⟩ := unhide HY
      have i1 : ¬ (j : Int) < (n : Int) := by omega
      obtain ⟨c, ec⟩ : ∃ c, ks.length = c := ⟨_, rfl⟩
      have hb := hX.bel
      have q0 := hX.lena
      have q1 := hX.lenb
      have q2 := hX.lenc
      have q3 := hX.lend
      rw [unhide e0, ec] at q0
      rw [unhide e1, ec] at q1
      rw [unhide e2, ec] at q2
      rw [unhide e3, ec] at q3
      have HB := hide hb
      have Q0 := hide q0
      have Q1 := hide q1
      have Q2 := hide q2
      have Q3 := hide q3
      clear hb q0 q1 q2 q3 hX HY ec
      go_wp2_with fail
      refine (unhide Q0).mono ?_
      rintro e wa ⟨rfl, ew⟩
      rw [ew]
      clear ew wa
      go_wp2_with fail
      refine (unhide Q1).mono ?_
      rintro e wa ⟨rfl, ew⟩
      rw [ew]
      clear ew wa
      go_wp2_with fail
      refine (unhide Q0).mono ?_
      rintro e wa ⟨rfl, ew⟩
      rw [ew]
      clear ew wa
      go_wp2_with fail
      refine (unhide Q2).mono ?_
      rintro e wa ⟨rfl, ew⟩
      rw [ew]
      clear ew wa
      go_wp2_with fail
      refine (unhide Q0).mono ?_
      rintro e wa ⟨rfl, ew⟩
      rw [ew]
      clear ew wa
      go_wp2_with fail
      refine (unhide Q3).mono ?_
      rintro e wa ⟨rfl, ew⟩
      rw [ew]
      clear ew wa
      go_wp2
      go_ret
      exact ⟨rfl, unhide HB⟩

end Go.Proofs.Ythmcalapofjmfab
