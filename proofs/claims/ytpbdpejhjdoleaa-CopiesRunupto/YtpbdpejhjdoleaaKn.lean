/-
  The document's side: what writes, what moves, what a register is known as.
-/
import Derived.Test.YtpbdpejhjdoleaaLw
import Derived.Test.YtpbdpejhjdoleaaSm3
namespace Go.Proofs.Ytpbdpejhjdoleaa
open Go.RowKit
set_option linter.unusedVariables false
set_option linter.unusedSimpArgs false
set_option maxRecDepth 100000 in
set_option maxHeartbeats 3200000 in
theorem write_any {w : World} {D : Nat → Prop} {x : RIn} {q : InR} (h : InP D w x q) (r : Int) :
    Calls Try.prog 54 #[inV q, .int .i64 r] w fun e w' => e = .returned (.bool (Dc (wrP x r))) ∧ Below w.heap.size w w' := by
  obtain ⟨rop, rcode, rdst, rav, rn, rpc, rneed, rev⟩ := q
  obtain ⟨h1, h2, h3, h4, h5, h6, h7, h8⟩ := h
  simp only at h1 h2 h3 h4 h5 h6 h7 h8
  obtain ⟨aa, ac, ea1, hva1, hva2⟩ := h7.1.shape
  obtain ⟨ea, ec, ee1, hve1, hve2⟩ := NV.shape h8
  subst ea1 ee1 h1 h2 h3 h4 h5 h6
  obtain ⟨AL, hAL⟩ : ∃ z, Hid (x.args.length = z) := ⟨_, hide rfl⟩
  obtain ⟨EL, hEL⟩ : ∃ z, Hid (x.ex.length = z) := ⟨_, hide rfl⟩
  unfold inV
  dsimp only
  rw [unhide hAL, unhide hEL]
  have HB := hide (box1n w (.cells #[.int .i64 x.op, .int .i64 x.code, .int .i64 x.dst, .slice aa AL ac, .int .i64 x.n, .int .i64 x.pc, .int .i64 x.need, .slice ea EL ec] 50))
  by_cases m3 : x.dst = -1
  · have d3 : (x.dst != -1) = false := by simp [m3]
    have HR : Hid (Dc (wrP x r) = false) := Dc_false (fun q => q.1 m3)
    rw [unhide HR]
    clear m3 h7 h8
    go_enter Try.func54, Try.ntmps54
    go_wp2_with fail
    go_ret
    exact ⟨rfl, unhide HB⟩
  · have d3 : (x.dst != -1) = true := by simp [m3]
    by_cases m4 : x.dst = r
    · have d4 : (x.dst == r) = true := by simp [m4]
      have HR : Hid (Dc (wrP x r) = true) := Dc_true ⟨m3, m4⟩
      rw [unhide HR]
      clear m3 m4 h7 h8
      go_enter Try.func54, Try.ntmps54
      go_wp2_with fail
      go_ret
      exact ⟨rfl, unhide HB⟩
    · have d4 : (x.dst == r) = false := by simp [m4]
      have HR : Hid (Dc (wrP x r) = false) := Dc_false (fun q => m4 q.2)
      rw [unhide HR]
      clear m3 m4 h7 h8
      go_enter Try.func54, Try.ntmps54
      go_wp2_with fail
      go_ret
      exact ⟨rfl, unhide HB⟩
set_option maxRecDepth 100000 in
set_option maxHeartbeats 3200000 in
theorem moves_any {w : World} {D : Nat → Prop} {x : RIn} {q : InR} (h : InP D w x q) :
    Calls Try.prog 36 #[inV q] w fun e w' => e = .returned (.bool (mvd x).isSome) ∧ Below w.heap.size w w' := by
  obtain ⟨rop, rcode, rdst, rav, rn, rpc, rneed, rev⟩ := q
  obtain ⟨h1, h2, h3, h4, h5, h6, h7, h8⟩ := h
  simp only at h1 h2 h3 h4 h5 h6 h7 h8
  obtain ⟨aa, ac, ea1, hva1, hva2⟩ := h7.1.shape
  obtain ⟨ea, ec, ee1, hve1, hve2⟩ := NV.shape h8
  subst ea1 ee1 h1 h2 h3 h4 h5 h6
  obtain ⟨AL, hAL⟩ : ∃ z, Hid (x.args.length = z) := ⟨_, hide rfl⟩
  obtain ⟨EL, hEL⟩ : ∃ z, Hid (x.ex.length = z) := ⟨_, hide rfl⟩
  unfold inV
  dsimp only
  unfold maxLen at hva2
  rw [unhide hAL] at hva1 ⊢
  rw [unhide hEL]
  have HB := hide (box1n w (.cells #[.int .i64 x.op, .int .i64 x.code, .int .i64 x.dst, .slice aa AL ac, .int .i64 x.n, .int .i64 x.pc, .int .i64 x.need, .slice ea EL ec] 50))
  clear h7 h8
  by_cases m1 : x.op = 1
  case neg =>
    have e1 : (x.op == 1) = false := by simp [m1]
    rw [mvd_no1 m1]
    clear m1
    go_enter Try.func36, Try.ntmps36
    go_wp2_with fail
    go_ret
    exact ⟨rfl, unhide HB⟩
  have e1 : (x.op == 1) = true := by simp [m1]
  by_cases m2 : AL = 1
  case neg =>
    have e2 : ((AL : Int) == 1) = false := by simp; omega
    rw [mvd_no2 (x := x) (by rw [unhide hAL]; exact m2)]
    clear m1 m2
    go_enter Try.func36, Try.ntmps36
    go_wp2_with fail
    go_ret
    exact ⟨rfl, unhide HB⟩
  subst m2
  by_cases m3 : x.dst = -1
  case pos =>
    have d3 : (x.dst != -1) = false := by simp [m3]
    rw [mvd_no3 m3]
    clear m1 m3
    go_enter Try.func36, Try.ntmps36
    go_wp2_with fail
    go_ret
    exact ⟨rfl, unhide HB⟩
  have d3 : (x.dst != -1) = true := by simp [m3]
  obtain ⟨o, ho⟩ : ∃ o, x.args = [o] := by
    have hl := unhide hAL
    cases hx : x.args with
    | nil => rw [hx] at hl; simp at hl
    | cons o l =>
      cases l with
      | nil => exact ⟨o, rfl⟩
      | cons _ _ => rw [hx] at hl; simp at hl
  rw [mvd_yes m1 ho m3]
  clear m1 m3 ho
  go_enter Try.func36, Try.ntmps36
  go_wp2_with fail
  go_ret
  exact ⟨rfl, unhide HB⟩
set_option maxRecDepth 100000 in
set_option maxHeartbeats 12800000 in
theorem known_any {w : World} {D : Nat → Prop} {out : List RIn} {f : Op → Wr} {v : Value} (h : InsV D w out v) (hl : Lw out f) (hN : out.length ≤ 1048576) (r : Int) :
    Calls Try.prog 48 #[v, .int .i64 r] w fun e w' => e = .returned (.tuple #[opV (mvO (knF f r)), .bool (knF f r).isSome]) ∧ Below w.heap.size w w' := by
  obtain ⟨la, lc, rfl, ha1, ha2⟩ := NV.shape h
  obtain ⟨L, hL⟩ : ∃ L, Hid (out.length = L) := ⟨_, hide rfl⟩
  have HI := hide h
  have HL := hide hl
  rw [unhide hL] at HI hN ha1 ⊢
  unfold maxLen at ha2
  clear h hl
  have H0 := hide ((BX.nil w).add #[.int .i64 0, .int .i64 0] 52)
  simp only [List.nil_append] at H0
  go_enter Try.func48, Try.ntmps48
  go_wp2_with fail
  go_loopg [6] L (fun gg t6 wr => ∃ (j : Nat), Hid (j = gg) ∧ Hid (j ≤ L) ∧ ((j = 0 ∧ t6 = .int .i64 (-1)) ∨ (∃ m : Nat, j = m + 1 ∧ t6 = .int .i64 (m : Int))) ∧ Hid (∀ (i : Nat) (z : RIn), j ≤ i → out[i]? = some z → ¬ wrP z r) ∧ Hid (BX w [(w.heap.size, #[.int .i64 0, .int .i64 0], 52)] wr))
  case atStart =>
    refine ⟨L, rfl, Nat.le_refl _, ?_, fun i z hi hz => by have := (List.getElem?_eq_some_iff.1 hz).1; have := unhide hL; omega, H0⟩
    cases L with
    | zero => exact .inl ⟨rfl, by go_num⟩
    | succ m => exact .inr ⟨m, rfl, by go_num⟩
  case round =>
    clear H0
    obtain ⟨j, hj, hjL, ht, hW, hC⟩ := hrel
    rcases ht with ⟨rfl, rfl⟩ | ⟨m, rfl, rfl⟩
    · have HKN := hide ((unhide HL).kn_no (r := r) (fun i z hz => unhide hW i z (by omega) hz))
      have r0 := (unhide hC).ce 0 rfl 0
      have r1 := (unhide hC).ce 0 rfl 1
      have rl := (unhide hC).lt (i := 0) rfl
      have rf0 := (blk_cells ((unhide hC).h 0 _ rfl)).2.1 0
      have rf1 := (blk_cells ((unhide hC).h 0 _ rfl)).2.1 1
      simp at r0 r1 rl rf0 rf1
      go_wp2_with fail
      refine bodyPost_ret (v := .tuple #[.agg #[.int .i64 0, .int .i64 0], .bool false]) ?_ rfl ?_
      · rw [results_cell_tmp rfl]
        go_simp
      · have HP : ∀ W, Below w.heap.size w W → (Ending.returned (.tuple #[.agg #[.int .i64 0, .int .i64 0], .bool false]) = .returned (.tuple #[opV (mvO (knF f r)), .bool (knF f r).isSome]) ∧ Below w.heap.size w W) := fun W hW => ⟨by rw [unhide HKN]; rfl, hW⟩
        apply HP
        repeat (first | refine Below.setCell ?_ (by first | (simp; done) | (simp; omega)) _ | with_reducible exact (unhide hC).b)
    have hm : m < out.length := by have := unhide hjL; have := unhide hL; omega
    obtain ⟨y, hy⟩ : ∃ p, out[m]? = some p := ⟨_, List.getElem?_eq_getElem hm⟩
    obtain ⟨lb, lo, _, q, e1, hlb, _, hf, yc0⟩ := NV.at zIn (show NV enIn 8 InP D w out (.slice la L lc) from unhide HI) hy
    rw [unhide hL] at e1
    cases e1
    have HWR : Hid (∀ W, Below w.heap.size w W → Calls Try.prog 54 #[inV q, .int .i64 r] W fun e w' => e = .returned (.bool (Dc (wrP y r))) ∧ Below W.heap.size W w') := fun W hW2 => write_any (InP.mv.bel hf hW2) r
    have HMO : Hid (∀ W, Below w.heap.size w W → Calls Try.prog 36 #[inV q] W fun e w' => e = .returned (.bool (mvd y).isSome) ∧ Below W.heap.size W w') := fun W hW2 => moves_any (InP.mv.bel hf hW2)
    obtain ⟨rop, rcode, rdst, rav, rn, rpc, rneed, rev⟩ := q
    obtain ⟨h1, h2, h3, h4, h5, h6, h7, h8⟩ := hf
    simp only at h1 h2 h3 h4 h5 h6 h7 h8
    obtain ⟨aa, ac, ea1, hva1, hva2⟩ := h7.1.shape
    obtain ⟨ea, ec, ee1, hve1, hve2⟩ := NV.shape h8
    subst ea1 ee1 h1 h2 h3 h4 h5 h6
    obtain ⟨AL, hAL⟩ : ∃ z, Hid (y.args.length = z) := ⟨_, hide rfl⟩
    obtain ⟨EL, hEL⟩ : ∃ z, Hid (y.ex.length = z) := ⟨_, hide rfl⟩
    have HA := hide (fun i p (hp : y.args[i]? = some p) => h7.1.elem zO hp)
    rw [unhide hAL, unhide hEL] at yc0 HWR HMO
    rw [unhide hAL] at HA hva1
    unfold inV at HWR HMO
    dsimp only at HWR HMO
    unfold maxLen at hva2
    have y0 := ((unhide hC).b.cell (p := ⟨lb, lo + m * 8 + 0, none⟩) hlb).trans (yc0 0 _ rfl)
    have y1 := ((unhide hC).b.cell (p := ⟨lb, lo + m * 8 + 1, none⟩) hlb).trans (yc0 1 _ rfl)
    have y2 := ((unhide hC).b.cell (p := ⟨lb, lo + m * 8 + 2, none⟩) hlb).trans (yc0 2 _ rfl)
    have y3 := ((unhide hC).b.cell (p := ⟨lb, lo + m * 8 + 3, none⟩) hlb).trans (yc0 3 _ rfl)
    have y4 := ((unhide hC).b.cell (p := ⟨lb, lo + m * 8 + 4, none⟩) hlb).trans (yc0 4 _ rfl)
    have y5 := ((unhide hC).b.cell (p := ⟨lb, lo + m * 8 + 5, none⟩) hlb).trans (yc0 5 _ rfl)
    have y6 := ((unhide hC).b.cell (p := ⟨lb, lo + m * 8 + 6, none⟩) hlb).trans (yc0 6 _ rfl)
    have y7 := ((unhide hC).b.cell (p := ⟨lb, lo + m * 8 + 7, none⟩) hlb).trans (yc0 7 _ rfl)
    simp only [Nat.add_zero] at y0
    have i0 : (0 : Int) ≤ (m : Int) := by omega
    have i1 : (m : Int) < (L : Int) := by have := unhide hL; omega
    have i2 : (m : Int) ≥ 0 := by omega
    have HY := hide hy
    have HYC := hide yc0
    clear h7 h8 hy yc0 hm
    go_wp2_with fail
    clear y0 y1 y2 y3 y4 y5 y6 y7
    refine (unhide HWR _ (unhide hC).b).mono ?_
    rintro e w2 ⟨rfl, b2⟩
    have hC2 := hide ((unhide hC).go b2)
    clear b2 hC HWR
    by_cases hw : wrP y r
    case neg =>
      have HD : Hid (Dc (wrP y r) = false) := Dc_false hw
      rw [unhide HD]
      have HW2 : Hid (∀ (i : Nat) (z : RIn), m ≤ i → out[i]? = some z → ¬ wrP z r) := fun i z hi hz => by
        by_cases e : i = m
        · subst e
          rw [unhide HY] at hz
          cases hz
          exact hw
        · exact unhide hW i z (by omega) hz
      clear hw
      go_wp2_with fail
      go_roundg (gk - 1)
      case measure => have := unhide hj; omega
      case rel =>
        refine ⟨m, by have := unhide hj; unfold Hid; omega, by have := unhide hjL; unfold Hid; omega, ?_, HW2, hC2⟩
        cases m with
        | zero => exact .inl ⟨rfl, by go_num⟩
        | succ n => exact .inr ⟨n, rfl, by go_num⟩
    have HD : Hid (Dc (wrP y r) = true) := Dc_true hw
    have HWY := hide hw
    rw [unhide HD]
    clear hw
    have y0 := ((unhide hC2).b.cell (p := ⟨lb, lo + m * 8 + 0, none⟩) hlb).trans (unhide HYC 0 _ rfl)
    have y1 := ((unhide hC2).b.cell (p := ⟨lb, lo + m * 8 + 1, none⟩) hlb).trans (unhide HYC 1 _ rfl)
    have y2 := ((unhide hC2).b.cell (p := ⟨lb, lo + m * 8 + 2, none⟩) hlb).trans (unhide HYC 2 _ rfl)
    have y3 := ((unhide hC2).b.cell (p := ⟨lb, lo + m * 8 + 3, none⟩) hlb).trans (unhide HYC 3 _ rfl)
    have y4 := ((unhide hC2).b.cell (p := ⟨lb, lo + m * 8 + 4, none⟩) hlb).trans (unhide HYC 4 _ rfl)
    have y5 := ((unhide hC2).b.cell (p := ⟨lb, lo + m * 8 + 5, none⟩) hlb).trans (unhide HYC 5 _ rfl)
    have y6 := ((unhide hC2).b.cell (p := ⟨lb, lo + m * 8 + 6, none⟩) hlb).trans (unhide HYC 6 _ rfl)
    have y7 := ((unhide hC2).b.cell (p := ⟨lb, lo + m * 8 + 7, none⟩) hlb).trans (unhide HYC 7 _ rfl)
    simp only [Nat.add_zero] at y0
    go_wp2_with fail
    clear y0 y1 y2 y3 y4 y5 y6 y7
    refine (unhide HMO _ (unhide hC2).b).mono ?_
    rintro e w3 ⟨rfl, b3⟩
    have hC3 := hide ((unhide hC2).go b3)
    clear b3 hC2 HMO
    have HLAST : Hid (∀ (i : Nat) (z : RIn), m < i → out[i]? = some z → ¬ wrP z r) := fun i z hi hz => unhide hW i z (by omega) hz
    cases hmv : mvd y with
    | none =>
      have HKN := hide ((unhide HL).kn_nm (unhide HY) (unhide HWY) (unhide HLAST) hmv)
      have r0 := (unhide hC3).ce 0 rfl 0
      have r1 := (unhide hC3).ce 0 rfl 1
      have rl := (unhide hC3).lt (i := 0) rfl
      have rf0 := (blk_cells ((unhide hC3).h 0 _ rfl)).2.1 0
      have rf1 := (blk_cells ((unhide hC3).h 0 _ rfl)).2.1 1
      simp at r0 r1 rl rf0 rf1
      clear hmv
      go_wp2_with fail
      refine bodyPost_ret (v := .tuple #[.agg #[.int .i64 0, .int .i64 0], .bool false]) ?_ rfl ?_
      · rw [results_cell_tmp rfl]
        go_simp
      · have HP : ∀ W, Below w.heap.size w W → (Ending.returned (.tuple #[.agg #[.int .i64 0, .int .i64 0], .bool false]) = .returned (.tuple #[opV (mvO (knF f r)), .bool (knF f r).isSome]) ∧ Below w.heap.size w W) := fun W hW => ⟨by rw [unhide HKN]; rfl, hW⟩
        apply HP
        repeat (first | refine Below.setCell ?_ (by first | (simp; done) | (simp; omega)) _ | with_reducible exact (unhide hC3).b)
    | some o =>
      have HMV := hide hmv
      have ho := (mvd_mem hmv).2.2.2
      have hA1 : AL = 1 := by rw [← unhide hAL, ho]; rfl
      subst hA1
      obtain ⟨gb, go, _, eg, _, _, hgb, gc⟩ := unhide HA 0 o (by rw [ho]; rfl)
      cases eg
      have g0 := ((unhide hC3).b.cell (p := ⟨gb, go + 0 * 2 + 0, none⟩) hgb).trans (gc 0 _ rfl)
      have g1 := ((unhide hC3).b.cell (p := ⟨gb, go + 0 * 2 + 1, none⟩) hgb).trans (gc 1 _ rfl)
      simp only [Nat.zero_mul, Nat.add_zero] at g0 g1
      have hgw := Nat.lt_of_lt_of_le hgb (unhide hC3).b.size
      have y3 := ((unhide hC3).b.cell (p := ⟨lb, lo + m * 8 + 3, none⟩) hlb).trans (unhide HYC 3 _ rfl)
      have hlw := Nat.lt_of_lt_of_le hlb (unhide hC3).b.size
      obtain ⟨P7, hP⟩ : ∃ z, Hid (w3.heap.size = z) := ⟨_, hide rfl⟩
      have H7 := hide ((unhide hC3).add #[.int .i64 o.k, .int .i64 o.n] 52)
      simp only [List.cons_append, List.nil_append] at H7
      rw [unhide hP] at H7
      clear gc ho hmv
      by_cases hok : o.k = 0
      case neg =>
        have d0 : (o.k != 0) = true := by simp [hok]
        have HKN := hide ((unhide HL).kn_val (unhide HY) (unhide HWY) (unhide HLAST) (unhide HMV) hok)
        clear hok
        have r0 := (unhide hC3).ce 0 rfl 0
        have r1 := (unhide hC3).ce 0 rfl 1
        have rl := (unhide hC3).lt (i := 0) rfl
        have rf0 := (blk_cells ((unhide hC3).h 0 _ rfl)).2.1 0
        have rf1 := (blk_cells ((unhide hC3).h 0 _ rfl)).2.1 1
        simp at r0 r1 rl rf0 rf1
        go_wp2_with fail
        refine bodyPost_ret (v := .tuple #[.agg #[.int .i64 o.k, .int .i64 o.n], .bool true]) ?_ rfl ?_
        · rw [results_cell_tmp rfl]
          go_simp
        · have HP : ∀ W, Below w.heap.size w W → (Ending.returned (.tuple #[.agg #[.int .i64 o.k, .int .i64 o.n], .bool true]) = .returned (.tuple #[opV (mvO (knF f r)), .bool (knF f r).isSome]) ∧ Below w.heap.size w W) := fun W hW => ⟨by rw [unhide HKN]; rfl, hW⟩
          apply HP
          repeat (first | refine bl_past ?_ (box1n _ _) | refine Below.setCell ?_ (by first | (simp; done) | (simp; omega)) _ | with_reducible exact (unhide hC3).b)
      have d0 : (o.k != 0) = false := by simp [hok]
      have HOK := hide hok
      clear hok
      go_wp2_with fail
      rw [unhide hP]
      have H0 := H7
      clear H7 g0 g1 hgw y3 hlw
      go_loopg [8] (L - (m + 1)) (fun gg t8 wr => ∃ (k : Nat), Hid (m + 1 ≤ k) ∧ Hid (k + gg = L) ∧ t8 = .int .i64 (k : Int) ∧ Hid (∀ (i : Nat) (z : RIn), m < i → i < k → out[i]? = some z → ¬ wrP z o.n) ∧ Hid (BX w [(w.heap.size, #[.int .i64 0, .int .i64 0], 52), (P7, #[.int .i64 o.k, .int .i64 o.n], 52)] wr))
      case atStart => exact ⟨m + 1, Nat.le_refl _, by have := unhide hjL; unfold Hid; omega, by go_num, fun i z h1 h2 => by omega, H0⟩
      case round =>
        clear H0
        obtain ⟨k, hmk, hk, rfl, hNW, hC⟩ := hrel
        by_cases hlk : k < L
        case neg =>
          have j1 : ¬ (k : Int) < (L : Int) := by omega
          have HKN := hide ((unhide HL).kn_r (unhide HY) (unhide HWY) (unhide HLAST) (unhide HMV) (unhide HOK) (fun i z hi hz => unhide hNW i z hi (by have := (List.getElem?_eq_some_iff.1 hz).1; have := unhide hL; omega) hz))
          have c0 := (unhide hC).ce 1 rfl 0
          have c1 := (unhide hC).ce 1 rfl 1
          have cl := (unhide hC).lt (i := 1) rfl
          simp at c0 c1 cl
          have r0 := (unhide hC).ce 0 rfl 0
          have r1 := (unhide hC).ce 0 rfl 1
          have rl := (unhide hC).lt (i := 0) rfl
          have rf0 := (blk_cells ((unhide hC).h 0 _ rfl)).2.1 0
          have rf1 := (blk_cells ((unhide hC).h 0 _ rfl)).2.1 1
          simp at r0 r1 rl rf0 rf1
          go_wp2_with fail
          refine bodyPost_ret (v := .tuple #[.agg #[.int .i64 o.k, .int .i64 o.n], .bool true]) ?_ rfl ?_
          · rw [results_cell_tmp rfl]
            go_simp
          · have HP : ∀ W, Below w.heap.size w W → (Ending.returned (.tuple #[.agg #[.int .i64 o.k, .int .i64 o.n], .bool true]) = .returned (.tuple #[opV (mvO (knF f r)), .bool (knF f r).isSome]) ∧ Below w.heap.size w W) := fun W hW => ⟨by rw [unhide HKN]; rfl, hW⟩
            apply HP
            repeat (first | refine Below.setCell ?_ (by first | (simp; done) | (simp; omega)) _ | with_reducible exact (unhide hC).b)
        have hkl : k < out.length := by rw [unhide hL]; exact hlk
        obtain ⟨z, hz⟩ : ∃ p, out[k]? = some p := ⟨_, List.getElem?_eq_getElem hkl⟩
        obtain ⟨_, _, _, q, e1, _, _, hf, zcell⟩ := NV.at zIn (show NV enIn 8 InP D w out (.slice (some ⟨lb, lo, none⟩) L lc) from unhide HI) hz
        rw [unhide hL] at e1
        cases e1
        have HWZ : Hid (∀ W, Below w.heap.size w W → Calls Try.prog 54 #[inV q, .int .i64 o.n] W fun e w' => e = .returned (.bool (Dc (wrP z o.n))) ∧ Below W.heap.size W w') := fun W hW2 => write_any (InP.mv.bel hf hW2) o.n
        obtain ⟨rop, rcode, rdst, rav, rn, rpc, rneed, rev⟩ := q
        obtain ⟨h1, h2, h3, h4, h5, h6, h7, h8⟩ := hf
        simp only at h1 h2 h3 h4 h5 h6 h7 h8
        obtain ⟨za, zc, ea1, hza1, hza2⟩ := h7.1.shape
        obtain ⟨ya, yc, ee1, hye1, hye2⟩ := NV.shape h8
        subst ea1 ee1 h1 h2 h3 h4 h5 h6
        obtain ⟨ZL, hZL⟩ : ∃ q, Hid (z.args.length = q) := ⟨_, hide rfl⟩
        obtain ⟨YL, hYL⟩ : ∃ q, Hid (z.ex.length = q) := ⟨_, hide rfl⟩
        rw [unhide hZL, unhide hYL] at zcell HWZ
        unfold inV at HWZ
        dsimp only at HWZ
        have k0 : (0 : Int) ≤ (k : Int) := by omega
        have k1 : (k : Int) < (L : Int) := by omega
        have HZK := hide hz
        clear h7 h8 hz hza1 hza2 hye1 hye2
        go_wp2_with fail
        obtain ⟨Y, hY⟩ : ∃ W, Hid (wr.drew = W) := ⟨_, hide rfl⟩
        have HYB : Hid (BX w [(w.heap.size, #[.int .i64 0, .int .i64 0], 52), (P7, #[.int .i64 o.k, .int .i64 o.n], 52)] Y) := (unhide hC).go (by rw [← unhide hY]; exact ⟨rfl, rfl, rfl, Nat.le_refl _, fun _ _ => rfl⟩)
        have HCE : Hid (∀ W, Below Y.heap.size Y W → W.cell? ⟨P7, 1, none⟩ = some (.int .i64 o.n) ∧ W.cell? ⟨lb, lo + k * 8, none⟩ = some (.int .i64 z.op) ∧ W.cell? ⟨lb, lo + k * 8 + 1, none⟩ = some (.int .i64 z.code) ∧ W.cell? ⟨lb, lo + k * 8 + 2, none⟩ = some (.int .i64 z.dst) ∧ W.cell? ⟨lb, lo + k * 8 + 3, none⟩ = some (.slice za ZL zc) ∧ W.cell? ⟨lb, lo + k * 8 + 4, none⟩ = some (.int .i64 z.n) ∧ W.cell? ⟨lb, lo + k * 8 + 5, none⟩ = some (.int .i64 z.pc) ∧ W.cell? ⟨lb, lo + k * 8 + 6, none⟩ = some (.int .i64 z.need) ∧ W.cell? ⟨lb, lo + k * 8 + 7, none⟩ = some (.slice ya YL yc)) := fun W hW0 => by
          have hW := bl_past (unhide HYB).b hW0
          have zz := (unhide HYB).go hW0
          exact ⟨zz.ce 1 rfl 1, (hW.cell (p := ⟨lb, lo + k * 8 + 0, none⟩) hlb).trans (zcell 0 _ rfl), (hW.cell (p := ⟨lb, lo + k * 8 + 1, none⟩) hlb).trans (zcell 1 _ rfl), (hW.cell (p := ⟨lb, lo + k * 8 + 2, none⟩) hlb).trans (zcell 2 _ rfl), (hW.cell (p := ⟨lb, lo + k * 8 + 3, none⟩) hlb).trans (zcell 3 _ rfl), (hW.cell (p := ⟨lb, lo + k * 8 + 4, none⟩) hlb).trans (zcell 4 _ rfl), (hW.cell (p := ⟨lb, lo + k * 8 + 5, none⟩) hlb).trans (zcell 5 _ rfl), (hW.cell (p := ⟨lb, lo + k * 8 + 6, none⟩) hlb).trans (zcell 6 _ rfl), (hW.cell (p := ⟨lb, lo + k * 8 + 7, none⟩) hlb).trans (zcell 7 _ rfl)⟩
        have HSY : Hid (Below Y.heap.size Y Y) := Below.refl _ _
        refine wp_region_held_drew (S := fun W => Below Y.heap.size Y W) (by kernel_rfl) (by rw [unhide hY]; exact Below.refl _ _) (fun hHeld => ?_)
        clear hHeld
        rw [unhide hY]
        clear hY
        refine wpAnyH_take (i := 0) (oi := _) (v := .slice (some ⟨lb, lo, none⟩) L lc) rfl (by kernel_rfl) (by kernel_rfl) (by kernel_rfl) (fun _ _ _ h => h) (Or.inl ⟨by rfl, (by intro w' hSw; obtain ⟨s1, z0, z1, z2, z3, z4, z5, z6, z7⟩ := unhide HCE w' hSw; go_simp)⟩) (unhide HSY) ?_
        go_simp
        refine wpAnyH_take (i := 1) (oi := _) (v := .int .i64 (k : Int)) rfl (by kernel_rfl) (by kernel_rfl) (by kernel_rfl) (fun _ _ _ h => h) (Or.inl ⟨by rfl, (by intro w' hSw; obtain ⟨s1, z0, z1, z2, z3, z4, z5, z6, z7⟩ := unhide HCE w' hSw; go_simp)⟩) (unhide HSY) ?_
        go_simp
        refine wpAnyH_take (i := 2) (oi := _) (v := .pointer (some ⟨lb, lo + k * 8, none⟩)) rfl (by kernel_rfl) (by kernel_rfl) (by kernel_rfl) (fun _ _ _ h => h) (Or.inl ⟨by rfl, (by intro w' hSw; obtain ⟨s1, z0, z1, z2, z3, z4, z5, z6, z7⟩ := unhide HCE w' hSw; go_simp)⟩) (unhide HSY) ?_
        go_simp
        refine wpAnyH_take (i := 3) (oi := _) (v := .agg #[.int .i64 z.op, .int .i64 z.code, .int .i64 z.dst, .slice za ZL zc, .int .i64 z.n, .int .i64 z.pc, .int .i64 z.need, .slice ya YL yc]) rfl (by kernel_rfl) (by kernel_rfl) (by kernel_rfl) (fun _ _ _ h => h) (Or.inl ⟨by rfl, (by intro w' hSw; obtain ⟨s1, z0, z1, z2, z3, z4, z5, z6, z7⟩ := unhide HCE w' hSw; go_simp)⟩) (unhide HSY) ?_
        go_simp
        refine wpAnyH_take (i := 4) (oi := _) (v := .pointer (some ⟨P7, 1, none⟩)) rfl (by kernel_rfl) (by kernel_rfl) (by kernel_rfl) (fun _ _ _ h => h) (Or.inl ⟨by rfl, (by intro w' hSw; obtain ⟨s1, z0, z1, z2, z3, z4, z5, z6, z7⟩ := unhide HCE w' hSw; go_simp)⟩) (unhide HSY) ?_
        go_simp
        refine wpAnyH_take (i := 5) (oi := _) (v := .int .i64 o.n) rfl (by kernel_rfl) (by kernel_rfl) (by kernel_rfl) (fun _ _ _ h => h) (Or.inl ⟨by rfl, (by intro w' hSw; obtain ⟨s1, z0, z1, z2, z3, z4, z5, z6, z7⟩ := unhide HCE w' hSw; go_simp)⟩) (unhide HSY) ?_
        go_simp
        have HC := hide (unhide HWZ Y (unhide HYB).b)
        refine wpAnyH_ready (rs := [6]) (by kernel_rfl) (by simp) ?_
        refine AllReadyH.cons (o := _) rfl (fun K hK => ?_) AllReadyH.nil
        go_simp
        refine (unhide HC).mono ?_
        rintro e Y2 ⟨rfl, b2⟩
        have HSZ := hide b2
        have HZ := hide ((unhide HYB).go b2)
        clear b2 HC HSY
        refine hK.out _ _ (unhide HSZ) (fun _ => ?_)
        clear hK K
        go_simp
        refine wpAnyH_done (by kernel_rfl) ?_ _
        clear HCE HSZ HWZ
        by_cases hzw : wrP z o.n
        case pos =>
          have HDz : Hid (Dc (wrP z o.n) = true) := Dc_true hzw
          rw [unhide HDz]
          have HKN := hide ((unhide HL).kn_w (unhide HY) (unhide HWY) (unhide HLAST) (unhide HMV) (unhide HOK) (by have := unhide hmk; omega) (unhide HZK) hzw)
          clear hzw
          have r0 := (unhide HZ).ce 0 rfl 0
          have r1 := (unhide HZ).ce 0 rfl 1
          have rl := (unhide HZ).lt (i := 0) rfl
          have rf0 := (blk_cells ((unhide HZ).h 0 _ rfl)).2.1 0
          have rf1 := (blk_cells ((unhide HZ).h 0 _ rfl)).2.1 1
          simp at r0 r1 rl rf0 rf1
          go_wp2_with fail
          refine bodyPost_ret (v := .tuple #[.agg #[.int .i64 0, .int .i64 0], .bool false]) ?_ rfl ?_
          · rw [results_cell_tmp rfl]
            go_simp
          · have HP : ∀ W, Below w.heap.size w W → (Ending.returned (.tuple #[.agg #[.int .i64 0, .int .i64 0], .bool false]) = .returned (.tuple #[opV (mvO (knF f r)), .bool (knF f r).isSome]) ∧ Below w.heap.size w W) := fun W hW => ⟨by rw [unhide HKN]; rfl, hW⟩
            apply HP
            repeat (first | refine Below.setCell ?_ (by first | (simp; done) | (simp; omega)) _ | with_reducible exact (unhide HZ).b)
        have HDz : Hid (Dc (wrP z o.n) = false) := Dc_false hzw
        rw [unhide HDz]
        have HNW2 : Hid (∀ (i : Nat) (z : RIn), m < i → i < k + 1 → out[i]? = some z → ¬ wrP z o.n) := fun i z' h1 h2 hz' => by
          by_cases e : i < k
          · exact unhide hNW i z' h1 e hz'
          · obtain rfl : i = k := by omega
            rw [unhide HZK] at hz'
            cases hz'
            exact hzw
        clear hzw
        go_wp2_with fail
        go_roundg (gk - 1)
        case measure => have := unhide hk; omega
        case rel => exact ⟨k + 1, by have := unhide hmk; unfold Hid; omega, by have := unhide hk; unfold Hid; omega, by go_num, HNW2, HZ⟩
end Go.Proofs.Ytpbdpejhjdoleaa
