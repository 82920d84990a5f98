/-
  Check, of the document.
-/
import Derived.Test.YtbkfnmkfbdoadaaGreatDoorFunc
namespace Go.Proofs.YtbkfnmkfbdoadaaGreatDoor
open Go.RowKit
set_option linter.unusedVariables false
set_option linter.unusedSimpArgs false
noncomputable section
open Classical
theorem where_any (a b : Int) (w : World) : Calls Tryz.prog 30 #[.int .i64 a, .int .i64 b] w fun e w' => e = .returned (.agg #[.int .i64 a, .int .i64 b]) ∧ Below w.heap.size w w' := by
  go_enter Tryz.func30, Tryz.ntmps30
  go_wp2
  refine bodyPost_ret (v := .agg #[.int .i64 a, .int .i64 b]) ?_ rfl ?_
  · rw [results_cell_one rfl]
    go_simp
  · exact ⟨rfl, (Below.refl _ _).alloc (Nat.le_refl _) _⟩
theorem csG_con {l : List Cn} {i : Nat} {c : Cn} (h : l[i]? = some c) : csG (l.take i) (l.drop i) = if conE c (l.take i) ≠ 0 then some ((i : Int), conE c (l.take i)) else csG (l.take (i + 1)) (l.drop (i + 1)) := by
  rw [csG_at h]
  unfold conE
  by_cases h1 : rfB c = false
  · simp [h1]
  · by_cases h2 : c.text.size > 4096
    · simp [h1, h2]
    · by_cases h3 : c ∈ l.take i
      · simp [h1, h2, h3]
      · simp [h1, h2, h3]
theorem rhsG_ne {n : Int} : ∀ {l : List Hd} {k : Nat} {a y : Int}, hsG n l k = some (a, y) → y ≠ 0
  | [], _, _, _, h => by cases h
  | g :: r, k, a, y, h => by
    rw [hsG] at h
    split at h
    · exact rhsG_ne h
    · simp only [Option.some.injEq, Prod.mk.injEq] at h; omega
theorem rcdG_ne {p : Pg} {f : Fc} : ∀ {l : List (Int × Int)} {k : Nat} {a y : Int}, cdG p f l k = some (a, y) → y ≠ 0
  | [], _, _, _, h => by cases h
  | (op, x) :: r, k, a, y, h => by
    rw [cdG] at h
    split at h
    · rename_i hne; simp only [Option.some.injEq, Prod.mk.injEq] at h; rw [← h.2]; exact hne
    · split at h
      · simp only [Option.some.injEq, Prod.mk.injEq] at h; omega
      · exact rcdG_ne h
theorem rfnF_ne {p : Pg} {f : Fc} {m t : Bool} {a y : Int} (h : fnF p f m t = some (a, y)) : y ≠ 0 := by
  unfold fnF at h
  cases h1 : nmF f.name t with
  | some e => exact nm_sz_ne (f := f) (m := m) (s := f.name) (t := t) (q1 := a) (by rw [h1] at h ⊢; exact h)
  | none =>
    rw [h1] at h
    simp only [orE] at h
    cases h2 : szF f m with
    | some e => exact nm_sz_ne (f := f) (m := m) (s := f.name) (t := t) (q1 := a) (by rw [h2] at h; rw [h1, h2]; exact h)
    | none =>
      rw [h2] at h
      cases h3 : cdF p f with
      | some e => rw [h3] at h; exact rcdG_ne (h3.trans h)
      | none =>
        rw [h3] at h
        simp only at h
        unfold hsF at h
        split at h
        · simp only [Option.some.injEq, Prod.mk.injEq] at h; omega
        · exact rhsG_ne h
set_option maxRecDepth 100000 in
set_option maxHeartbeats 12800000 in
theorem rCheck_any {w : World} {pv : Value} {p : Pg} (hp : PgV w pv p) (hC : p.consts.length ≤ 9000000000000) (hok : ∀ (i : Nat) (f : Fc), p.funcs[i]? = some f → f.code.length ≤ 9000000000000 ∧ f.name.size ≤ 9223372036854775807 ∧ ∀ q ∈ f.code, I64 q.2) : Calls Tryz.prog 15 #[pv] w fun e w' => e = .returned (rsV (ckF p)) ∧ Below w.heap.size w w' := by
  have HPV := hide hp
  have HOK := hide hok
  obtain ⟨cv, fv, rfl, hc, hf⟩ := hp
  have HCX := hide hc
  obtain ⟨_, ca, ccap, rfl, _, _, _⟩ := hc
  obtain ⟨fa, fcap, rfl, hNc, hNm, _⟩ := hf.at
  have HWH := hide where_any
  obtain ⟨NC, hNC⟩ : ∃ n, Hid (p.consts.length = n) := ⟨_, rfl⟩
  obtain ⟨NF, hNF⟩ : ∃ n, Hid (p.funcs.length = n) := ⟨_, rfl⟩
  rw [unhide hNC, unhide hNF] at HPV
  have HCO := hide (fun wx (hb : Below w.heap.size w wx) (i : Nat) (c : Cn) (hi : p.consts[i]? = some c) => constant_any ((unhide HCX).below hb (Nat.le_refl _)) hi hC)
  have HFU := hide (fun wx (hb : Below w.heap.size w wx) (k : Nat) (f : Fc) (hk : p.funcs[k]? = some f) => rfunction_any ((unhide HPV).below hb (Nat.le_refl _)) hk (unhide HOK k f hk).2.1 (unhide HOK k f hk).1 (unhide HOK k f hk).2.2)
  rw [unhide hNC] at hC HCO
  rw [unhide hNF] at hNc
  rw [unhide hNC, unhide hNF]
  have hNx : NF ≤ 9223372036854775807 := Nat.le_trans hNc hNm
  obtain ⟨t1, t2, t3, t4⟩ := two_boxes w #[.slice ca NC ccap, .slice fa NF fcap] #[.int .i64 0, .int .i64 0] 25 31
  have HT := hide (And.intro t1 (And.intro t2 (And.intro t3 t4)))
  have hnw := heap_alloc_new (w.alloc (.cells #[.slice ca NC ccap, .slice fa NF fcap] 25)) (.cells #[.int .i64 0, .int .i64 0] 31)
  simp only [World.size_alloc] at hnw
  have HNW := hide hnw
  obtain ⟨r, hr⟩ : ∃ r, Hid (ckF p = r) := ⟨_, rfl⟩
  rw [unhide hr]
  have hr' := unhide hr
  unfold ckF csF at hr'
  rw [unhide hNC, unhide hNF] at hr'
  have hB00 : Hid (Below (w.heap.size + 2) ((w.alloc (.cells #[.slice ca NC ccap, .slice fa NF fcap] 25)).alloc (.cells #[.int .i64 0, .int .i64 0] 31)) ((w.alloc (.cells #[.slice ca NC ccap, .slice fa NF fcap] 25)).alloc (.cells #[.int .i64 0, .int .i64 0] 31))) := Below.refl _ _
  by_cases h512 : NC > 512
  · rw [if_pos h512] at hr'
    obtain rfl : r = some (-1, 512, 5) := by rw [← hr']; rfl
    have k5 : (512 : Int) < (NC : Int) := by omega
    clear t1 t2 t3 t4 hnw hr'
    go_enter Tryz.func15, Tryz.ntmps15
    go_wp2_with fail
    refine (unhide HWH _ _ _).mono ?_
    rintro e w5 ⟨rfl, hb5⟩
    have b5 := (unhide hB00).trans (hb5.mono (by first | (rw [(unhide HT).2.2.2]; exact Nat.le_refl _) | (have := (unhide hB00).size; rw [(unhide HT).2.2.2] at this; exact this)))
    have hbl := (b5.block (w.heap.size + 1) (by omega)).trans (unhide HNW)
    have q0 : w5.cell? ⟨w.heap.size + 1, 0, none⟩ = some (.int .i64 0) := by unfold World.cell?; simp only [hbl]; rfl
    have q1 : w5.cell? ⟨w.heap.size + 1, 1, none⟩ = some (.int .i64 0) := by unfold World.cell?; simp only [hbl]; rfl
    have z0 : w5.frozen? ⟨w.heap.size + 1, 0, none⟩ = false := by unfold World.frozen?; simp only [hbl]; rfl
    have z1 : w5.frozen? ⟨w.heap.size + 1, 1, none⟩ = false := by unfold World.frozen?; simp only [hbl]; rfl
    have hwl := World.block_lt_of_cell? _ _ q0
    have hB5 := hide ((unhide HT).2.2.1.trans (b5.mono (by omega)))
    clear hb5 b5 hbl
    go_wp2_with fail
    refine bodyPost_ret (v := .tuple #[.agg #[.int .i64 (-1), .int .i64 (512)], .int .i64 (5)]) ?_ rfl ?_
    · rw [results_cell_tmp rfl]
      go_simp
    · exact ⟨rfl, (unhide hB5).trans (Fr.below (S := fun k => k = w.heap.size + 1) (((Fr.refl (fun k => k = w.heap.size + 1) w5).setCell ⟨w.heap.size + 1, 0, none⟩ (.inr rfl) _).setCell ⟨w.heap.size + 1, 1, none⟩ (.inr rfl) _) (by have : w.heap.size + 1 < w5.heap.size := hwl; omega) (fun k hk e => by omega))⟩
  · rw [if_neg h512] at hr'
    have k5 : decide ((512 : Int) < (NC : Int)) = false := decide_eq_false (by omega)
    have HR := hide hr'
    clear t1 t2 t3 t4 hnw hr' hr hf hok
    go_enter Tryz.func15, Tryz.ntmps15
    go_wp2_with fail
    go_loopg [4, 5] NC (fun gg t4 t5 wr => ∃ (i : Nat), Hid (i + gg = NC) ∧ t4 = .int .i64 (i : Int) ∧ Hid (Below (w.heap.size + 2) ((w.alloc (.cells #[.slice ca NC ccap, .slice fa NF fcap] 25)).alloc (.cells #[.int .i64 0, .int .i64 0] 31)) wr) ∧ Hid (csG (p.consts.take i) (p.consts.drop i) = csG [] p.consts))
    case atStart => exact ⟨0, by unfold Hid; omega, rfl, hB00, by unfold Hid; simp⟩
    case round =>
      obtain ⟨i, hi, rfl, hB0, hG⟩ := hrel
      have p0 := ((unhide hB0).cell (p := ⟨w.heap.size, 0, none⟩) (by simp)).trans ((unhide HT).1 0)
      have p1 := ((unhide hB0).cell (p := ⟨w.heap.size, 1, none⟩) (by simp)).trans ((unhide HT).1 1)
      simp only [List.getElem?_toArray, List.getElem?_cons_zero, List.getElem?_cons_succ] at p0 p1
      have hBw := hide ((unhide HT).2.2.1.trans ((unhide hB0).mono (by omega)))
      by_cases hlt : i < NC
      · obtain ⟨c, hc⟩ : ∃ c, p.consts[i]? = some c := ⟨_, List.getElem?_eq_getElem (by rw [unhide hNC]; exact hlt)⟩
        have hG2 := unhide hG
        rw [csG_con hc] at hG2
        have HCi := hide (fun wx (hb : Below w.heap.size w wx) => unhide HCO wx hb i c hc)
        obtain ⟨er, her⟩ : ∃ z, conE c (p.consts.take i) = z := ⟨_, rfl⟩
        rw [her] at HCi hG2
        have HG2 := hide hG2
        have j1 : (i : Int) < (NC : Int) := by omega
        clear hG2 hc her
        go_wp2_with fail
        refine (unhide HCi _ (unhide hBw)).mono ?_
        rintro e w3 ⟨rfl, hb3⟩
        have hsq := (unhide hB0).size
        rw [(unhide HT).2.2.2] at hsq
        have hB3 := hide ((unhide hB0).trans (hb3.mono hsq))
        clear hb3 p0 p1 HCi hsq
        by_cases he : er = 0
        · subst he
          have hG3 := unhide HG2
          rw [if_neg (by simp)] at hG3
          have HG3 := hide hG3
          clear hG3
          go_wp2_with fail
          go_roundg (gk - 1)
          case measure => have := unhide hi; omega
          case rel => exact ⟨i + 1, by have := unhide hi; unfold Hid; omega, by go_num, hB3, HG3⟩
        · have ke : (er != 0) = true := by rw [bne_iff_ne]; exact he
          have hG3 := unhide HG2
          rw [if_pos he] at hG3
          have hR2 := unhide HR
          rw [← hG3] at hR2
          obtain rfl : some (-1, (i : Int), er) = r := by rw [← hR2]; rfl
          clear hG3 hR2
          go_wp2_with fail
          refine (unhide HWH _ _ _).mono ?_
          rintro e w5 ⟨rfl, hb5⟩
          have b5 := (unhide hB3).trans (hb5.mono (by first | (rw [(unhide HT).2.2.2]; exact Nat.le_refl _) | (have := (unhide hB3).size; rw [(unhide HT).2.2.2] at this; exact this)))
          have hbl := (b5.block (w.heap.size + 1) (by omega)).trans (unhide HNW)
          have q0 : w5.cell? ⟨w.heap.size + 1, 0, none⟩ = some (.int .i64 0) := by unfold World.cell?; simp only [hbl]; rfl
          have q1 : w5.cell? ⟨w.heap.size + 1, 1, none⟩ = some (.int .i64 0) := by unfold World.cell?; simp only [hbl]; rfl
          have z0 : w5.frozen? ⟨w.heap.size + 1, 0, none⟩ = false := by unfold World.frozen?; simp only [hbl]; rfl
          have z1 : w5.frozen? ⟨w.heap.size + 1, 1, none⟩ = false := by unfold World.frozen?; simp only [hbl]; rfl
          have hwl := World.block_lt_of_cell? _ _ q0
          have hB5 := hide ((unhide HT).2.2.1.trans (b5.mono (by omega)))
          clear hb5 b5 hbl
          go_wp2_with fail
          refine bodyPost_ret (v := .tuple #[.agg #[.int .i64 (-1), .int .i64 ((i : Int))], .int .i64 (er)]) ?_ rfl ?_
          · rw [results_cell_tmp rfl]
            go_simp
          · exact ⟨rfl, (unhide hB5).trans (Fr.below (S := fun k => k = w.heap.size + 1) (((Fr.refl (fun k => k = w.heap.size + 1) w5).setCell ⟨w.heap.size + 1, 0, none⟩ (.inr rfl) _).setCell ⟨w.heap.size + 1, 1, none⟩ (.inr rfl) _) (by have : w.heap.size + 1 < w5.heap.size := hwl; omega) (fun k hk e => by omega))⟩
      · have hiL : i = NC := by have := unhide hi; omega
        have j1 : decide ((i : Int) < (NC : Int)) = false := decide_eq_false (by omega)
        have hG2 := unhide hG
        rw [List.drop_eq_nil_of_le (by rw [unhide hNC]; omega)] at hG2
        have hR2 := unhide HR
        rw [← hG2] at hR2
        simp only [csG] at hR2
        clear hiL hG2
        by_cases h0 : NF = 0
        · rw [if_pos h0] at hR2
          subst hR2
          subst h0
          go_wp2_with fail
          refine (unhide HWH _ _ _).mono ?_
          rintro e w5 ⟨rfl, hb5⟩
          have b5 := (unhide hB0).trans (hb5.mono (by first | (rw [(unhide HT).2.2.2]; exact Nat.le_refl _) | (have := (unhide hB0).size; rw [(unhide HT).2.2.2] at this; exact this)))
          have hbl := (b5.block (w.heap.size + 1) (by omega)).trans (unhide HNW)
          have q0 : w5.cell? ⟨w.heap.size + 1, 0, none⟩ = some (.int .i64 0) := by unfold World.cell?; simp only [hbl]; rfl
          have q1 : w5.cell? ⟨w.heap.size + 1, 1, none⟩ = some (.int .i64 0) := by unfold World.cell?; simp only [hbl]; rfl
          have z0 : w5.frozen? ⟨w.heap.size + 1, 0, none⟩ = false := by unfold World.frozen?; simp only [hbl]; rfl
          have z1 : w5.frozen? ⟨w.heap.size + 1, 1, none⟩ = false := by unfold World.frozen?; simp only [hbl]; rfl
          have hwl := World.block_lt_of_cell? _ _ q0
          have hB5 := hide ((unhide HT).2.2.1.trans (b5.mono (by omega)))
          clear hb5 b5 hbl
          go_wp2_with fail
          refine bodyPost_ret (v := .tuple #[.agg #[.int .i64 (0), .int .i64 (0)], .int .i64 (2)]) ?_ rfl ?_
          · rw [results_cell_tmp rfl]
            go_simp
          · exact ⟨rfl, (unhide hB5).trans (Fr.below (S := fun k => k = w.heap.size + 1) (((Fr.refl (fun k => k = w.heap.size + 1) w5).setCell ⟨w.heap.size + 1, 0, none⟩ (.inr rfl) _).setCell ⟨w.heap.size + 1, 1, none⟩ (.inr rfl) _) (by have : w.heap.size + 1 < w5.heap.size := hwl; omega) (fun k hk e => by omega))⟩
        · rw [if_neg h0] at hR2
          have k0 : ((NF : Int) == 0) = false := beq_eq_false_iff_ne.2 (by omega)
          by_cases h1 : NF > 128
          · rw [if_pos h1] at hR2
            subst hR2
            have k1 : (128 : Int) < (NF : Int) := by omega
            go_wp2_with fail
            refine (unhide HWH _ _ _).mono ?_
            rintro e w5 ⟨rfl, hb5⟩
            have b5 := (unhide hB0).trans (hb5.mono (by first | (rw [(unhide HT).2.2.2]; exact Nat.le_refl _) | (have := (unhide hB0).size; rw [(unhide HT).2.2.2] at this; exact this)))
            have hbl := (b5.block (w.heap.size + 1) (by omega)).trans (unhide HNW)
            have q0 : w5.cell? ⟨w.heap.size + 1, 0, none⟩ = some (.int .i64 0) := by unfold World.cell?; simp only [hbl]; rfl
            have q1 : w5.cell? ⟨w.heap.size + 1, 1, none⟩ = some (.int .i64 0) := by unfold World.cell?; simp only [hbl]; rfl
            have z0 : w5.frozen? ⟨w.heap.size + 1, 0, none⟩ = false := by unfold World.frozen?; simp only [hbl]; rfl
            have z1 : w5.frozen? ⟨w.heap.size + 1, 1, none⟩ = false := by unfold World.frozen?; simp only [hbl]; rfl
            have hwl := World.block_lt_of_cell? _ _ q0
            have hB5 := hide ((unhide HT).2.2.1.trans (b5.mono (by omega)))
            clear hb5 b5 hbl
            go_wp2_with fail
            refine bodyPost_ret (v := .tuple #[.agg #[.int .i64 (128), .int .i64 (0)], .int .i64 (5)]) ?_ rfl ?_
            · rw [results_cell_tmp rfl]
              go_simp
            · exact ⟨rfl, (unhide hB5).trans (Fr.below (S := fun k => k = w.heap.size + 1) (((Fr.refl (fun k => k = w.heap.size + 1) w5).setCell ⟨w.heap.size + 1, 0, none⟩ (.inr rfl) _).setCell ⟨w.heap.size + 1, 1, none⟩ (.inr rfl) _) (by have : w.heap.size + 1 < w5.heap.size := hwl; omega) (fun k hk e => by omega))⟩
          · rw [if_neg h1] at hR2
            have k1 : decide ((128 : Int) < (NF : Int)) = false := decide_eq_false (by omega)
            have HR2 := hide hR2
            clear hR2
            go_wp2_with fail
            go_loopg [6, 7, 8] NF (fun gg t6 t7 t8 wr => ∃ (k : Nat), Hid (k + gg = NF) ∧ t6 = .int .i64 (k : Int) ∧ Hid (Below (w.heap.size + 2) ((w.alloc (.cells #[.slice ca NC ccap, .slice fa NF fcap] 25)).alloc (.cells #[.int .i64 0, .int .i64 0] 31)) wr) ∧ Hid (fsG p (p.funcs.take k) (p.funcs.drop k) = r))
            case atStart => exact ⟨0, by unfold Hid; omega, rfl, hB0, by unfold Hid; simpa using unhide HR2⟩
            case round =>
              clear hB0 p0 p1 hBw hi hG
              obtain ⟨k, hk, rfl, hB0, hG⟩ := hrel
              have p0 := ((unhide hB0).cell (p := ⟨w.heap.size, 0, none⟩) (by simp)).trans ((unhide HT).1 0)
              have p1 := ((unhide hB0).cell (p := ⟨w.heap.size, 1, none⟩) (by simp)).trans ((unhide HT).1 1)
              simp only [List.getElem?_toArray, List.getElem?_cons_zero, List.getElem?_cons_succ] at p0 p1
              have hBw := hide ((unhide HT).2.2.1.trans ((unhide hB0).mono (by omega)))
              by_cases hlt2 : k < NF
              · obtain ⟨f, hf⟩ : ∃ f, p.funcs[k]? = some f := ⟨_, List.getElem?_eq_getElem (by rw [unhide hNF]; exact hlt2)⟩
                have hG2 := unhide hG
                rw [fsG_at hf] at hG2
                have HFi := hide (fun wx (hb : Below w.heap.size w wx) => unhide HFU wx hb k f hf)
                obtain ⟨o, ho⟩ : ∃ z, fnF p f (decide (k = 0)) (decide (∃ g ∈ p.funcs.take k, g.name = f.name)) = z := ⟨_, rfl⟩
                rw [ho] at HFi hG2
                have HO := hide ho
                have HG2 := hide hG2
                have j2 : (k : Int) < (NF : Int) := by omega
                clear hG2 hf ho
                go_wp2_with fail
                refine (unhide HFi _ (unhide hBw)).mono ?_
                rintro e w3 ⟨rfl, hb3⟩
                have hsq := (unhide hB0).size
                rw [(unhide HT).2.2.2] at hsq
                have hB3 := hide ((unhide hB0).trans (hb3.mono hsq))
                clear hb3 p0 p1 HFi hsq
                cases o with
                | none =>
                  simp only [prV]
                  go_wp2_with fail
                  go_roundg (gk - 1)
                  case measure => have := unhide hk; omega
                  case rel => exact ⟨k + 1, by have := unhide hk; unfold Hid; omega, by go_num, hB3, HG2⟩
                | some q =>
                  obtain ⟨a, y⟩ := q
                  have hy := rfnF_ne (unhide HO)
                  have ke : (y != 0) = true := by rw [bne_iff_ne]; exact hy
                  obtain rfl : some ((k : Int), a, y) = r := unhide HG2
                  simp only [prV]
                  clear hy
                  go_wp2_with fail
                  refine (unhide HWH _ _ _).mono ?_
                  rintro e w5 ⟨rfl, hb5⟩
                  have b5 := (unhide hB3).trans (hb5.mono (by first | (rw [(unhide HT).2.2.2]; exact Nat.le_refl _) | (have := (unhide hB3).size; rw [(unhide HT).2.2.2] at this; exact this)))
                  have hbl := (b5.block (w.heap.size + 1) (by omega)).trans (unhide HNW)
                  have q0 : w5.cell? ⟨w.heap.size + 1, 0, none⟩ = some (.int .i64 0) := by unfold World.cell?; simp only [hbl]; rfl
                  have q1 : w5.cell? ⟨w.heap.size + 1, 1, none⟩ = some (.int .i64 0) := by unfold World.cell?; simp only [hbl]; rfl
                  have z0 : w5.frozen? ⟨w.heap.size + 1, 0, none⟩ = false := by unfold World.frozen?; simp only [hbl]; rfl
                  have z1 : w5.frozen? ⟨w.heap.size + 1, 1, none⟩ = false := by unfold World.frozen?; simp only [hbl]; rfl
                  have hwl := World.block_lt_of_cell? _ _ q0
                  have hB5 := hide ((unhide HT).2.2.1.trans (b5.mono (by omega)))
                  clear hb5 b5 hbl
                  go_wp2_with fail
                  refine bodyPost_ret (v := .tuple #[.agg #[.int .i64 ((k : Int)), .int .i64 (a)], .int .i64 (y)]) ?_ rfl ?_
                  · rw [results_cell_tmp rfl]
                    go_simp
                  · exact ⟨rfl, (unhide hB5).trans (Fr.below (S := fun k => k = w.heap.size + 1) (((Fr.refl (fun k => k = w.heap.size + 1) w5).setCell ⟨w.heap.size + 1, 0, none⟩ (.inr rfl) _).setCell ⟨w.heap.size + 1, 1, none⟩ (.inr rfl) _) (by have : w.heap.size + 1 < w5.heap.size := hwl; omega) (fun k hk e => by omega))⟩
              · have hiL2 : k = NF := by have := unhide hk; omega
                have j2 : decide ((k : Int) < (NF : Int)) = false := decide_eq_false (by omega)
                obtain rfl : none = r := by
                  rw [← unhide hG, List.drop_eq_nil_of_le (by rw [unhide hNF]; omega)]
                  rfl
                clear hiL2
                go_wp2_with fail
                refine (unhide HWH _ _ _).mono ?_
                rintro e w5 ⟨rfl, hb5⟩
                have b5 := (unhide hB0).trans (hb5.mono (by first | (rw [(unhide HT).2.2.2]; exact Nat.le_refl _) | (have := (unhide hB0).size; rw [(unhide HT).2.2.2] at this; exact this)))
                have hbl := (b5.block (w.heap.size + 1) (by omega)).trans (unhide HNW)
                have q0 : w5.cell? ⟨w.heap.size + 1, 0, none⟩ = some (.int .i64 0) := by unfold World.cell?; simp only [hbl]; rfl
                have q1 : w5.cell? ⟨w.heap.size + 1, 1, none⟩ = some (.int .i64 0) := by unfold World.cell?; simp only [hbl]; rfl
                have z0 : w5.frozen? ⟨w.heap.size + 1, 0, none⟩ = false := by unfold World.frozen?; simp only [hbl]; rfl
                have z1 : w5.frozen? ⟨w.heap.size + 1, 1, none⟩ = false := by unfold World.frozen?; simp only [hbl]; rfl
                have hwl := World.block_lt_of_cell? _ _ q0
                have hB5 := hide ((unhide HT).2.2.1.trans (b5.mono (by omega)))
                clear hb5 b5 hbl
                go_wp2_with fail
                refine bodyPost_ret (v := .tuple #[.agg #[.int .i64 (0), .int .i64 (0)], .int .i64 (0)]) ?_ rfl ?_
                · rw [results_cell_tmp rfl]
                  go_simp
                · exact ⟨rfl, (unhide hB5).trans (Fr.below (S := fun k => k = w.heap.size + 1) (((Fr.refl (fun k => k = w.heap.size + 1) w5).setCell ⟨w.heap.size + 1, 0, none⟩ (.inr rfl) _).setCell ⟨w.heap.size + 1, 1, none⟩ (.inr rfl) _) (by have : w.heap.size + 1 < w5.heap.size := hwl; omega) (fun k hk e => by omega))⟩
end
end Go.Proofs.YtbkfnmkfbdoadaaGreatDoor
