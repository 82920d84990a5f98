/-
  HeapPays: the law's walk.
-/
import Derived.Test.YtkpngfahnpidkaaPStep
namespace Go.Proofs.Ytkpngfahnpidkaa
open Go.RowKit
set_option linter.unusedVariables false
set_option linter.unusedSimpArgs false

theorem bool_neqP (b c : Bool) (w : World) : (binOp .neq 4 (.bool b) (.bool c)).run Try.prog w = .ok (.bool (b != c)) w := by cases b <;> cases c <;> kernel_rfl
theorem pick5 (w : World) (z : Int) : Calls Try.prog 11 #[.int .i64 z, .int .i64 5] w fun e w' => e = .returned (.int .i64 ((pick z 5 : Nat) : Int)) ∧ w' = w := pick_any w z 5 (by omega) (by omega)
theorem pickM (w : World) (z : Int) : Calls Try.prog 11 #[.int .i64 z, .int .i64 1048576] w fun e w' => e = .returned (.int .i64 ((pick z 1048576 : Nat) : Int)) ∧ w' = w := pick_any w z 1048576 (by omega) (by omega)
def someL : List Int := [3, 4, 5, 6, 0]
/-- The state between two steps. -/
structure PJ (w : World) (hb sb : Nat) (most spent : Int) (made : Nat) (ov : Value) (os : List OD) (wr : World) : Prop where
  hp : Hp wr hb most spent ov os
  len : os.length = made
  far : ∀ k, Fts hb ov os k → w.heap.size ≤ k ∧ k ≠ sb
  sB : w.heap.size ≤ sb
  sbx : ∀ j c, someL[j]? = some c → wr.cell? ⟨sb, j, none⟩ = some (.int .i64 c)
  bel : Below w.heap.size w wr
  rng : 0 ≤ spent ∧ spent ≤ most
  two : 2 * (made : Int) ≤ spent
section
variable {w : World} {hb sb : Nat} {most spent : Int} {made : Nat} {ov : Value} {os : List OD} {wr w4 w5 w6 : World}
theorem PJ.slt (J : PJ w hb sb most spent made ov os wr) : sb < wr.heap.size := World.block_lt_of_cell? _ _ (J.sbx 0 3 rfl)
theorem PJ.below (J : PJ w hb sb most spent made ov os wr) (b : Below wr.heap.size wr w4) : PJ w hb sb most spent made ov os w4 :=
  ⟨J.hp.below b, J.len, J.far, J.sB, fun j c h => (b.cell (p := ⟨sb, j, none⟩) J.slt).trans (J.sbx j c h), J.bel.trans (b.mono J.bel.size), J.rng, J.two⟩
theorem PJ.next (J : PJ w hb sb most spent made ov os w4) {sp' : Int} {L : Nat} (N : NowL w4 hb most spent ov os w5 sp' L) (h1 : 0 ≤ sp' ∧ sp' ≤ most) (h2 : 2 * (L : Int) ≤ sp') : ∃ ov' os', PJ w hb sb most sp' L ov' os' w5 := by
  obtain ⟨os', ⟨ov', H, f, hF⟩, hl⟩ := N
  have hs := J.bel.size
  have sl := J.slt
  refine ⟨ov', os', H, hl, fun k hk => ?_, J.sB, fun j c h => (f.cell (a := ⟨sb, j, none⟩) sl (fun e => (J.far sb e).2 rfl)).trans (J.sbx j c h), J.bel.trans (f.below hs (fun k hk e => by have := (J.far k e).1; omega)), h1, h2⟩
  rcases hF k hk with q | q
  · exact J.far k q
  · exact ⟨by omega, by omega⟩
end
theorem pj_start {w w2 : World} {most : Int} (h : Hp w2 w.heap.size most 0 (.slice none 0 0) []) (b : Below w.heap.size w w2) (hm : 0 ≤ most) :
    PJ w w.heap.size w2.heap.size most 0 0 (.slice none 0 0) [] (w2.alloc (.cells #[.int .i64 3, .int .i64 4, .int .i64 5, .int .i64 6, .int .i64 0] 3)) := by
  have hB : Below w2.heap.size w2 (w2.alloc (.cells #[.int .i64 3, .int .i64 4, .int .i64 5, .int .i64 6, .int .i64 0] 3)) := (Below.refl _ _).alloc (Nat.le_refl _) _
  have hg := heap_alloc_new w2 (.cells #[.int .i64 3, .int .i64 4, .int .i64 5, .int .i64 6, .int .i64 0] 3)
  refine ⟨h.below hB, rfl, fun k hk => ?_, b.size, fun j c hc => ?_, b.trans (hB.mono b.size), ⟨by omega, hm⟩, by simp⟩
  · rcases hk.cases with e | e | ⟨i, o, ho, _⟩
    · have := h.hlt
      exact ⟨by omega, by omega⟩
    · simp [Value.ownBlock] at e
    · simp at ho
  · simp only [World.cell?, hg]
    have hj : j < 5 := (List.getElem?_eq_some_iff.1 hc).1
    match j, hj with
    | 0, _ => simp [someL] at hc; simp [hc]
    | 1, _ => simp [someL] at hc; simp [hc]
    | 2, _ => simp [someL] at hc; simp [hc]
    | 3, _ => simp [someL] at hc; simp [hc]
    | 4, _ => simp [someL] at hc; simp [hc]
set_option maxRecDepth 100000 in
set_option maxHeartbeats 12800000 in
theorem paysLaw (w : World) (budget : Int) (v : Value) (ps : List OpD) (ls : Nat → List (Int × Int)) (hR : RdO w v ps) (hLs : ∀ i, i < ps.length → RtV w (ps.getD i OpD.zero).lv (ls i) ∧ (ls i).length ≤ 8796093021952) (hN : ps.length ≤ 4611686018427387904) : Calls Try.prog 6 #[.int .i64 budget, v] w fun e w' => e = .returned (.bool true) ∧ Below w.heap.size w w' := by
  obtain ⟨sa, scap, rfl, hcells⟩ := hR
  obtain ⟨L, hL⟩ : ∃ L, Hid (ps.length = L) := ⟨_, rfl⟩
  have HC := hide hcells
  have HLS := hide hLs
  rw [unhide hL] at hN ⊢
  have HP := hide (pickM w budget)
  have hm := pick_lt budget (n := 1048576) (by omega)
  obtain ⟨m, em⟩ : ∃ m, pick budget 1048576 = m := ⟨_, rfl⟩
  rw [em] at HP hm
  have HNEW := hide (new_any w (m : Int) 0)
  clear hcells em hLs
  have bn := bool_neqP
  go_enter Try.func6, Try.ntmps6
  go_wp2_with fail
  refine (unhide HP).mono ?_
  rintro e1 w1 ⟨rfl, rfl⟩
  go_wp2_with fail
  refine (unhide HNEW).mono ?_
  rintro e2 w2 ⟨rfl, H1, hb1⟩
  rw [show max (m : Int) 0 = (m : Int) by omega, show max (0 : Int) 0 = 0 from rfl] at H1
  have HJ0 := hide (pj_start H1 hb1 (by omega))
  have hlt := H1.hlt
  clear H1 hb1
  go_wp2_with fail
  go_loopg [7, 8, 10] L (fun g t7 t8 t10 wr => ∃ (i : Nat) (spent : Int) (made : Nat) (ov : Value) (os : List OD), Hid (i + g = L) ∧ t7 = .int .i64 spent ∧ t8 = .int .i64 (made : Int) ∧ t10 = .int .i64 (i : Int) ∧ Hid (PJ w1 w1.heap.size w2.heap.size (m : Int) spent made ov os wr))
  case atStart => exact ⟨0, 0, 0, _, _, by unfold Hid; omega, rfl, rfl, rfl, HJ0⟩
  case round =>
    obtain ⟨i, spent, made, ov, os, hi, rfl, rfl, rfl, hJ⟩ := hrel
    obtain ⟨hr0, hr1⟩ := (unhide hJ).rng
    have hr2 := (unhide hJ).two
    by_cases hlt' : i < L
    · obtain ⟨sb, so, rfl, hsb, hop⟩ := unhide HC i (by rw [unhide hL]; exact hlt')
      have hop2 := hop.below ((unhide hJ).bel) hsb
      obtain ⟨hRt, hlN⟩ := unhide HLS i (by rw [unhide hL]; exact hlt')
      generalize ps.getD i OpD.zero = p at *
      generalize ls i = l at *
      obtain ⟨p0, p1, p2, p3, p4, p5, p6, p7, p8⟩ := hop2
      have hsw := Nat.lt_of_lt_of_le hsb (unhide hJ).bel.size
      have i0 : (0 : Int) ≤ (i : Int) := by omega
      have i1 : (i : Int) < (L : Int) := by omega
      have hk5 := pick_lt p.call (n := 5) (by omega)
      obtain ⟨pk, epk⟩ : ∃ pk, pick p.call 5 = pk := ⟨_, rfl⟩
      obtain ⟨c, hc⟩ : ∃ c, someL[pick p.call 5]? = some c := ⟨_, List.getElem?_eq_getElem (by simpa [someL] using hk5)⟩
      have hc5 : c = 3 ∨ c = 4 ∨ c = 5 ∨ c = 6 ∨ c = 0 := by
        have := List.mem_of_getElem? hc
        simp [someL] at this
        omega
      have hsome := (unhide hJ).sbx _ c hc
      obtain ⟨n, may, k, nn, ok, sp', L', hS⟩ := stp_any hRt hlN (unhide hJ).bel (unhide hJ).hp (by omega) (unhide hJ).rng (fun q e => ((unhide hJ).far q e).1) (by rw [(unhide hJ).len]; omega) c hc5
      obtain ⟨la, lc, elv, _⟩ := hRt
      obtain ⟨LL, hLL⟩ : ∃ LL, Hid (l.length = LL) := ⟨_, rfl⟩
      rw [unhide hLL] at elv
      rw [elv] at p8
      have hBx : Below wr.heap.size wr (wr.alloc (.cells #[.int .i64 p.on, .int .i64 p.call, .int .i64 p.vk, .int .i64 p.vn, .int .i64 p.xk, .int .i64 p.xn, .int .i64 p.i, .int .i64 p.n, .slice la LL lc] 38)) := (Below.refl _ _).alloc (Nat.le_refl _) _
      have eOp : opC p = #[.int .i64 p.on, .int .i64 p.call, .int .i64 p.vk, .int .i64 p.vn, .int .i64 p.xk, .int .i64 p.xn, .int .i64 p.i, .int .i64 p.n, .slice la LL lc] := by unfold opC; rw [elv]
      have HP5 := pick5 (wr.alloc (.cells #[.int .i64 p.on, .int .i64 p.call, .int .i64 p.vk, .int .i64 p.vn, .int .i64 p.xk, .int .i64 p.xn, .int .i64 p.i, .int .i64 p.n, .slice la LL lc] 38)) p.call
      rw [epk] at HP5 hsome hk5
      have HP5 := hide HP5
      have HCO := hS.cost _ hBx
      rw [eOp] at HCO
      have HCO := hide HCO
      have HAS := hide (fun w4 (b : Below wr.heap.size wr w4) => hS.ask w4 b)
      rw [eOp] at HAS
      unfold saidC at HAS
      have HOX : Hid (Opx (wr.alloc (.cells #[.int .i64 p.on, .int .i64 p.call, .int .i64 p.vk, .int .i64 p.vn, .int .i64 p.xk, .int .i64 p.xn, .int .i64 p.i, .int .i64 p.n, .slice la LL lc] 38)) wr.heap.size p) := by
        have := Opx.new wr p 38
        rw [eOp] at this
        exact this
      have s1 := (World.cell?_of_block (a := ⟨w2.heap.size, pk, none⟩) (Below.heap_alloc wr (.cells #[.int .i64 p.on, .int .i64 p.call, .int .i64 p.vk, .int .i64 p.vn, .int .i64 p.xk, .int .i64 p.xn, .int .i64 p.i, .int .i64 p.n, .slice la LL lc] 38) _ (unhide hJ).slt)).trans hsome
      have hsl := (unhide hJ).slt
      have HBX := hide hBx
      have OKE := hS.okay
      have YES := hide hS.yes
      have NO := hide hS.no
      have ELV := hide elv
      have LEN := hide (unhide hJ).len
      have k0 : (0 : Int) ≤ (pk : Int) := by omega
      have k1 : (pk : Int) < 5 := by omega
      clear hop hc hsome hS elv eOp hBx epk
      go_wp2_with fail
      refine (unhide HP5).mono ?_
      rintro e4 wa ⟨rfl, ewa⟩
      rw [← ewa] at s1 HOX HCO HBX
      have hwa : w2.heap.size < wa.heap.size := World.block_lt_of_cell? _ _ s1
      obtain ⟨X, eX⟩ : ∃ X, Hid (wr.heap.size = X) := ⟨_, rfl⟩
      have hXa : wr.heap.size < wa.heap.size := (unhide HOX).lt
      have ox : ∀ j (hj : j < 9), wa.cell? ⟨wr.heap.size, j, none⟩ = some ((opL p)[j]'hj) := unhide HOX
      have o0 := ox 0 (by omega)
      have o1 := ox 1 (by omega)
      have o2 := ox 2 (by omega)
      have o3 := ox 3 (by omega)
      have o4 := ox 4 (by omega)
      have o5 := ox 5 (by omega)
      have o6 := ox 6 (by omega)
      have o7 := ox 7 (by omega)
      have o8 := ox 8 (by omega)
      simp only [opL, List.getElem_cons_zero, List.getElem_cons_succ] at o0 o1 o2 o3 o4 o5 o6 o7 o8
      rw [unhide ELV] at o8
      rw [unhide eX] at hXa o0 o1 o2 o3 o4 o5 o6 o7 o8 ⊢
      clear ewa p0 p1 p2 p3 p4 p5 p6 p7 p8 ox hsw
      go_wp2_with fail
      refine (unhide HCO).mono ?_
      rintro e5 w4 ⟨rfl, hb4⟩
      have hB4 := (unhide HBX).trans (hb4.mono (unhide HBX).size)
      have HAS4 := hide (unhide HAS w4 hB4)
      have hJ4 := hide ((unhide hJ).below hB4)
      have q0 := (hb4.cell (p := ⟨X, 0, none⟩) hXa).trans o0
      have q1 := (hb4.cell (p := ⟨X, 1, none⟩) hXa).trans o1
      have q2 := (hb4.cell (p := ⟨X, 2, none⟩) hXa).trans o2
      have q3 := (hb4.cell (p := ⟨X, 3, none⟩) hXa).trans o3
      have q4 := (hb4.cell (p := ⟨X, 4, none⟩) hXa).trans o4
      have q5 := (hb4.cell (p := ⟨X, 5, none⟩) hXa).trans o5
      have q6 := (hb4.cell (p := ⟨X, 6, none⟩) hXa).trans o6
      have q7 := (hb4.cell (p := ⟨X, 7, none⟩) hXa).trans o7
      have q8 := (hb4.cell (p := ⟨X, 8, none⟩) hXa).trans o8
      have hX4 : X < w4.heap.size := World.block_lt_of_cell? _ _ q0
      have hh4 := (unhide hJ4).hp.hlt
      clear hb4 hB4 s1 o0 o1 o2 o3 o4 o5 o6 o7 o8 hwa hXa
      cases may with
      | false =>
        simp only [Bool.false_and] at OKE
        subst OKE
        obtain ⟨rfl, rfl, rfl, rfl⟩ := unhide NO rfl
        rw [unhide LEN] at HAS4
        go_wp2_with fail
        refine (unhide HAS4).mono ?_
        rintro e6 w5 ⟨rfl, N5⟩
        obtain ⟨ov5, os5, J5⟩ := (unhide hJ4).next N5 (by omega) (by omega)
        have hJ6 := hide (J5.below ((Below.refl _ w5).alloc (Nat.le_refl _) (.cells #[.int .i64 0, .int .i64 0, .int .i64 0, .int .i64 0, .bool false, .int .i64 0, .slice none 0 0, .slice none 0 0, .int .i64 0, .int .i64 0, .bool false, .slice none 0 0] 58)))
        have HSP := hide (spent_any (unhide hJ6).hp)
        have HLE := len_any (unhide hJ6).hp
        rw [(unhide hJ6).len] at HLE
        have HLE := hide HLE
        have hh6 := (unhide hJ6).hp.hlt
        clear N5 J5
        go_wp2_with fail
        refine (unhide HSP).mono ?_
        rintro e7 w7 ⟨rfl, rfl⟩
        go_wp2_with fail
        refine (unhide HLE).mono ?_
        rintro e8 w8 ⟨rfl, rfl⟩
        go_wp2_with fail
        go_roundg (gk - 1)
        case measure => have := unhide hi; omega
        case rel => exact ⟨i + 1, _, made, _, _, by have := unhide hi; unfold Hid; omega, by go_num, by go_num, by go_num, hJ6⟩
      | true =>
        by_cases hroom : n ≤ (m : Int) - spent
        · have d1 : decide (n ≤ (m : Int) - spent) = true := decide_eq_true hroom
          rw [d1] at OKE
          simp only [Bool.and_self] at OKE
          subst OKE
          obtain ⟨rfl, hn0, hh⟩ := unhide YES rfl
          rcases hh with ⟨rfl, rfl, rfl, rfl⟩ | ⟨hc0, rfl, rfl, rfl, hn2⟩
          · rw [unhide LEN] at HAS4
            go_wp2_with fail
            refine (unhide HAS4).mono ?_
            rintro e6 w5 ⟨rfl, N5⟩
            obtain ⟨ov5, os5, J5⟩ := (unhide hJ4).next N5 (by omega) (by omega)
            have hJ6 := hide (J5.below ((Below.refl _ w5).alloc (Nat.le_refl _) (.cells #[.int .i64 0, .int .i64 0, .int .i64 0, .int .i64 0, .bool true, .int .i64 0, .slice none 0 0, .slice none 0 0, .int .i64 0, .int .i64 0, .bool false, .slice none 0 0] 58)))
            have HSP := hide (spent_any (unhide hJ6).hp)
            have HLE := len_any (unhide hJ6).hp
            rw [(unhide hJ6).len] at HLE
            have HLE := hide HLE
            have hh6 := (unhide hJ6).hp.hlt
            clear N5 J5
            go_wp2_with fail
            refine (unhide HSP).mono ?_
            rintro e7 w7 ⟨rfl, rfl⟩
            go_wp2_with fail
            refine (unhide HLE).mono ?_
            rintro e8 w8 ⟨rfl, rfl⟩
            go_wp2_with fail
            go_roundg (gk - 1)
            case measure => have := unhide hi; omega
            case rel => exact ⟨i + 1, _, made, _, _, by have := unhide hi; unfold Hid; omega, by go_num, by go_num, by go_num, hJ6⟩
          · rw [unhide LEN] at HAS4
            have dc : (c != 0) = true := by simp; omega
            have dc2 : (c == 0) = false := by simp; omega
            go_wp2_with fail
            refine (unhide HAS4).mono ?_
            rintro e6 w5 ⟨rfl, N5⟩
            obtain ⟨ov5, os5, J5⟩ := (unhide hJ4).next N5 (by omega) (by omega)
            have hJ6 := hide (J5.below ((Below.refl _ w5).alloc (Nat.le_refl _) (.cells #[.int .i64 (6 + c - 3), .int .i64 (made : Int), .int .i64 0, .int .i64 0, .bool true, .int .i64 0, .slice none 0 0, .slice none 0 0, .int .i64 0, .int .i64 0, .bool false, .slice none 0 0] 58)))
            have HSP := hide (spent_any (unhide hJ6).hp)
            have HLE := len_any (unhide hJ6).hp
            rw [(unhide hJ6).len] at HLE
            have HLE := hide HLE
            have hh6 := (unhide hJ6).hp.hlt
            clear N5 J5
            go_wp2_with fail
            refine (unhide HSP).mono ?_
            rintro e7 w7 ⟨rfl, rfl⟩
            go_wp2_with fail
            refine (unhide HLE).mono ?_
            rintro e8 w8 ⟨rfl, rfl⟩
            go_wp2_with fail
            go_roundg (gk - 1)
            case measure => have := unhide hi; omega
            case rel => exact ⟨i + 1, _, made + 1, _, _, by have := unhide hi; unfold Hid; omega, by go_num, by go_num, by go_num, hJ6⟩
        · have d1 : decide (n ≤ (m : Int) - spent) = false := decide_eq_false hroom
          rw [d1] at OKE
          simp only [Bool.and_false] at OKE
          subst OKE
          obtain ⟨rfl, rfl, rfl, rfl⟩ := unhide NO rfl
          rw [unhide LEN] at HAS4
          go_wp2_with fail
          refine (unhide HAS4).mono ?_
          rintro e6 w5 ⟨rfl, N5⟩
          obtain ⟨ov5, os5, J5⟩ := (unhide hJ4).next N5 (by omega) (by omega)
          have hJ6 := hide (J5.below ((Below.refl _ w5).alloc (Nat.le_refl _) (.cells #[.int .i64 0, .int .i64 0, .int .i64 0, .int .i64 0, .bool false, .int .i64 0, .slice none 0 0, .slice none 0 0, .int .i64 0, .int .i64 0, .bool false, .slice none 0 0] 58)))
          have HSP := hide (spent_any (unhide hJ6).hp)
          have HLE := len_any (unhide hJ6).hp
          rw [(unhide hJ6).len] at HLE
          have HLE := hide HLE
          have hh6 := (unhide hJ6).hp.hlt
          clear N5 J5
          go_wp2_with fail
          refine (unhide HSP).mono ?_
          rintro e7 w7 ⟨rfl, rfl⟩
          go_wp2_with fail
          refine (unhide HLE).mono ?_
          rintro e8 w8 ⟨rfl, rfl⟩
          go_wp2_with fail
          go_roundg (gk - 1)
          case measure => have := unhide hi; omega
          case rel => exact ⟨i + 1, _, made, _, _, by have := unhide hi; unfold Hid; omega, by go_num, by go_num, by go_num, hJ6⟩
    · have hiL : i = L := by have := unhide hi; omega
      subst hiL
      have HS1 := hide (spend_ok (unhide hJ).hp (by omega) (by omega) ((m : Int) - spent) (by omega) (Int.le_refl _))
      have hhl := (unhide hJ).hp.hlt
      go_wp2_with fail
      refine (unhide HS1).mono ?_
      rintro e5 w5 ⟨rfl, H5, f5, hz5⟩
      rw [show spent + ((m : Int) - spent) = (m : Int) by omega] at H5
      have HSP := hide (spent_any H5)
      have HS2 := hide (spend_no H5 (by omega) (by omega) 1 (.inr (by omega)))
      have hB5 := hide ((unhide hJ).bel.trans (f5.below (unhide hJ).bel.size (fun k hk e => by have := ((unhide hJ).far k e).1; omega)))
      clear H5 f5 hz5
      go_wp2_with fail
      refine (unhide HSP).mono ?_
      rintro e6 w6 ⟨rfl, rfl⟩
      go_wp2_with fail
      refine (unhide HS2).mono ?_
      rintro e7 w7 ⟨rfl, nk, rfl⟩
      go_wp2_with fail
      go_ret
      exact ⟨rfl, (unhide hB5).trans ((Fr.drewN (S := fun _ => False) nk).below (unhide hB5).size (fun _ _ e => e))⟩
end Go.Proofs.Ytkpngfahnpidkaa
