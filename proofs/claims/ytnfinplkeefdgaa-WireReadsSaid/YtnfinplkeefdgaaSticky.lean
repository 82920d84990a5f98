/-
  P1.2, P1.6: behind the first error nothing changes.
-/
import Derived.Test.YtnfinplkeefdgaaGet2
import Derived.Test.YtnfinplkeefdgaaOneWay
namespace Go.Proofs.Ytnfinplkeefdgaa
open Go.RowKit

/-- One call of a row. -/
structure GetD where
  on : Int
  kind : Int
  n : Int
def GetD.zero : GetD := ⟨0, 0, 0⟩
/-- A slice of calls reads so. -/
def RdG (w : World) (v : Value) (gs : List GetD) : Prop :=
  ∃ a cap, v = .slice a gs.length cap ∧ ∀ i, i < gs.length → (gs.getD i GetD.zero).n ≤ 9223372036854775807 ∧ ∃ b off, a = some ⟨b, off, none⟩ ∧ b < w.heap.size ∧ w.cell? ⟨b, off + i * 3, none⟩ = some (.int .i64 (gs.getD i GetD.zero).on) ∧
    w.cell? ⟨b, off + i * 3 + 1, none⟩ = some (.int .i64 (gs.getD i GetD.zero).kind) ∧ w.cell? ⟨b, off + i * 3 + 2, none⟩ = some (.int .i64 (gs.getD i GetD.zero).n)

/-- What holds ahead of a round. -/
def StAt (w0 : World) (N : Nat) (r rb : Nat) (left : List Int) (e : Int) (w : World) : Prop :=
  ∃ u, Rdr w r rb u left e ∧ BOk left ∧ left.length ≤ N ∧ rb < w.heap.size ∧ Below w0.heap.size w0 w
theorem chainR2 {w w1 w2 : World} {r : Nat} (h : Below w.heap.size w w1) (hr : w.heap.size ≤ r) (f : RFr r w1 w2) : Below w.heap.size w w2 :=
  h.trans (f.below h.size (by intro k hk e; omega))
theorem StAt.step {w0 w w2 : World} {N r rb : Nat} {left left2 : List Int} {e2 : Int} {u2 : Value} (o o2 : Obj) (hr : w0.heap.size ≤ r) (hrb : rb < w.heap.size) (hB : Below w0.heap.size w0 w)
    (hR : Rdr w2 r rb u2 left2 e2) (hF : RFr r (w.alloc o) w2) (hok : BOk left2) (hl : left2.length ≤ left.length) (hN : left.length ≤ N) : StAt w0 N r rb left2 e2 (w2.alloc o2) := by
  refine ⟨u2, hR.alloc _, hok, by omega, ?_, ?_⟩
  · have := hF.size
    simp at this ⊢
    omega
  · exact (chainR2 (hB.alloc hB.size _) hr hF).alloc (chainR2 (hB.alloc hB.size _) hr hF).size _

set_option maxHeartbeats 3200000 in
set_option maxRecDepth 100000 in
theorem sticky_walk (va rw0 : Value) (bs : List Int) (gs : List GetD) (w : World) (hb : Rd w va bs) (hB : BOk bs) (hN : bs.length ≤ 140737488355328) (hrow : RdG w rw0 gs) (hM : gs.length ≤ 140737488355328) :
    Calls Try.prog 7 #[va, rw0] w fun e w' => e = .returned (.bool true) ∧ Below w.heap.size w w' := by
  obtain ⟨a0, cap0, hva⟩ := hb.shape
  obtain ⟨a1, cap1, rfl, hcell⟩ := hrow
  rw [hva]
  have Hb := hide hb
  have HB := hide hB
  have HVA := hide hva
  have HC := hide hcell
  obtain ⟨N, hNN⟩ : ∃ N, Hid (bs.length = N) := ⟨_, rfl⟩
  obtain ⟨M, hMM⟩ : ∃ M, Hid (gs.length = M) := ⟨_, rfl⟩
  rw [unhide hNN] at hN ⊢
  rw [unhide hMM] at hM ⊢
  have hN1 := newReader_any va bs w (unhide Hb) (by rw [unhide hNN]; exact hN)
  rw [unhide HVA, unhide hNN] at hN1
  have HN1 := hide hN1
  clear hb hB hcell hva hN1
  go_enter Try.func7, Try.ntmps7
  go_wp2_with fail
  refine (unhide HN1).mono ?_
  rintro e w1 ⟨r1, rb1, u1, rfl, hr1, hrb1, hR1, hB1⟩
  have hRaw := hide (rRaw_bad r1 u1 bs 0 (-1) w1 hR1 (.inr (.inl (by omega))))
  have HB1 := hide hB1
  clear hR1 hB1 HN1
  go_wp2_with fail
  refine (unhide hRaw).mono ?_
  rintro e w2 ⟨rfl, u2, hR2, hF2⟩
  have hEr := hide (rErr_any r1 u2 _ _ w2 hR2)
  have hLe := rLeft_any r1 u2 _ _ w2 hR2
  dsimp only at hLe
  rw [unhide hNN] at hLe
  have HLe := hide hLe
  have HB2 := hide (chainR2 (unhide HB1) hr1 hF2)
  have hk1 := hR2.lt
  have hN2 := newReader_at r1 va bs w2 ((unhide Hb).below (unhide HB2)) (by rw [unhide hNN]; exact hN) hk1
  rw [unhide HVA, unhide hNN] at hN2
  have HN2 := hide hN2
  clear hR2 hF2 hLe hN2 hRaw HB1
  dsimp only
  go_wp2_with fail
  refine (unhide hEr).mono ?_
  rintro e w3 ⟨rfl, hw3⟩
  rw [hw3]
  clear hw3 w3
  rw [show rawErr (-1) 0 = 1 from rfl]
  go_wp2_with fail
  refine (unhide HLe).mono ?_
  rintro e w3 ⟨rfl, hw3⟩
  rw [hw3]
  clear hw3 w3 HLe hEr
  go_wp2_with fail
  refine (unhide HN2).mono ?_
  rintro e w3 ⟨r, rb, u3, rfl, hr3, hrb3, hlt3, hR3, hB3⟩
  have hr : w.heap.size ≤ r := Nat.le_trans (unhide HB2).size hr3
  have h0 : Hid (StAt w N r rb bs 0 w3) := ⟨u3, hR3, unhide HB, by rw [unhide hNN]; exact Nat.le_refl _, hlt3, chainB1 (unhide HB2) hB3⟩
  have hl0 : Hid (bs.length = N) := hNN
  clear hR3 hB3 HN2 hrb3 hlt3 hr3 HB2 hk1 hr1 hrb1
  go_wp2
  go_loopg [7, 8, 9] M (fun k s7 s8 s9 wr => ∃ (j : Nat) (left : List Int) (e : Int) (L : Nat), Hid (j + k = M) ∧ s7 = .int .i64 e ∧ s8 = .int .i64 (L : Int) ∧ Hid (left.length = L) ∧ s9 = .int .i64 (j : Int) ∧ Hid (StAt w N r rb left e wr))
  case atStart => exact ⟨0, bs, 0, N, by unfold Hid; omega, rfl, rfl, hl0, rfl, h0⟩
  case round =>
    obtain ⟨j, left, e, L, hj, rfl, rfl, hL, rfl, hO⟩ := hrel
    obtain ⟨u, hR, hBk, hlN, hrb, hBel⟩ := unhide hO
    by_cases hlt : j < M
    · obtain ⟨hn, cb, co, rfl, hcb, hc0, hc1, hc2⟩ := unhide HC j (by rw [unhide hMM]; exact hlt)
      have hk0 := (hBel.cell (p := ⟨cb, co + j * 3, none⟩) hcb).trans hc0
      have hk1 := (hBel.cell (p := ⟨cb, co + j * 3 + 1, none⟩) hcb).trans hc1
      have hk2 := (hBel.cell (p := ⟨cb, co + j * 3 + 2, none⟩) hcb).trans hc2
      have i0 : (0 : Int) ≤ (j : Int) := by omega
      have i1 : (j : Int) < (M : Int) := by omega
      clear hc0 hc1 hc2 hO
      generalize gs.getD j GetD.zero = q at hk0 hk1 hk2 hn
      obtain ⟨on, kind, n⟩ := q
      dsimp only at hk0 hk1 hk2 hn
      have HALL := hide (And.intro hR (And.intro hBk (And.intro hlN (And.intro hrb hBel))))
      clear hR hBk hlN hrb hBel
      by_cases k0 : kind < 0
      · have hG := hide (get_stick r u left e on 1 n (wr.alloc (.cells #[.int .i64 on, .int .i64 1, .int .i64 n] 57)) ((unhide HALL).1.alloc _) (by have := (unhide HALL).2.2.2.1; simp; omega) (unhide HALL).2.1 (Nat.le_trans (unhide HALL).2.2.1 hN) (by omega) hn)
        go_wp2_with fail
        refine (unhide hG).mono ?_
        rintro e5 w2 ⟨x, s, l, left2, e2, ⟨rfl, u2, hR2, hF2⟩, hS⟩
        have HN := hide (StAt.step (.cells #[.int .i64 on, .int .i64 1, .int .i64 n] 57) (.cells #[.int .u64 x, .string s, .int .i64 0] 59) hr (unhide HALL).2.2.2.1 (unhide HALL).2.2.2.2 hR2 hF2 hS.ok hS.len (unhide HALL).2.2.1)
        have HE := hide (rErr_any r u2 left2 e2 (w2.alloc (.cells #[.int .u64 x, .string s, .int .i64 0] 59)) (hR2.alloc _))
        have hLe := rLeft_any r u2 left2 e2 (w2.alloc (.cells #[.int .u64 x, .string s, .int .i64 0] 59)) (hR2.alloc _)
        have hEn := rEnd_any r u2 left2 e2 (w2.alloc (.cells #[.int .u64 x, .string s, .int .i64 0] 59)) (hR2.alloc _)
        obtain ⟨L2, hL2⟩ : ∃ L2, Hid (left2.length = L2) := ⟨_, rfl⟩
        rw [unhide hL2] at hLe
        have HLe := hide hLe
        have HEn := hide hEn
        have HS := hide hS
        clear hR2 hF2 hS hLe hEn hG HALL hk0 hk1 hk2
        dsimp only [GotV]
        by_cases he2 : e2 = 0
        · have he : e = 0 := by
            rcases Classical.em (e = 0) with q | q
            · exact q
            · exact absurd (((unhide HS).stays q).symm.trans he2) q
          subst he2 he
          have hle : L2 ≤ L := by have := (unhide HS).len; have := unhide hL; have := unhide hL2; omega
          have hge : decide ((L2 : Int) < 0) = false := decide_eq_false (by omega)
          go_wp2_with fail
          refine (unhide HE).mono ?_
          rintro e6 w3 ⟨rfl, hw3⟩
          rw [hw3]
          clear hw3 w3
          go_wp2_with fail
          refine (unhide HLe).mono ?_
          rintro e6 w3 ⟨rfl, hw3⟩
          rw [hw3]
          clear hw3 w3
          go_wp2
          go_roundg (gk - 1)
          case measure => have := unhide hj; omega
          case rel => exact ⟨j + 1, left2, 0, L2, by have := unhide hj; unfold Hid; omega, rfl, rfl, hL2, by go_num, HN⟩
        · obtain ⟨rfl, rfl, rfl, hlf⟩ := (unhide HS).zero he2
          have hLL : L2 = L := by rw [← unhide hL2, ← unhide hL, hlf]
          subst hLL
          have qe2 : (e2 != 0) = true := by rw [bne_iff_ne]; exact he2
          have hEnd := unhide HEn
          rw [show rEnd left2 e2 = e2 from if_neg he2] at hEnd
          have HEn := hide hEnd
          have hle : decide ((L2 : Int) < (L2 : Int)) = false := decide_eq_false (by omega)
          have hge : decide ((L2 : Int) < 0) = false := decide_eq_false (by omega)
          clear hEnd hlf
          by_cases he : e = 0
          · subst he
            clear he2
            go_wp2_with fail
            refine (unhide HE).mono ?_
            rintro e6 w3 ⟨rfl, hw3⟩
            rw [hw3]
            clear hw3 w3
            go_wp2_with fail
            refine (unhide HLe).mono ?_
            rintro e6 w3 ⟨rfl, hw3⟩
            rw [hw3]
            clear hw3 w3
            go_wp2_with fail
            refine (unhide HEn).mono ?_
            rintro e6 w3 ⟨rfl, hw3⟩
            rw [hw3]
            clear hw3 w3
            go_wp2
            go_roundg (gk - 1)
            case measure => have := unhide hj; omega
            case rel => exact ⟨j + 1, left2, e2, L2, by have := unhide hj; unfold Hid; omega, rfl, rfl, hL2, by go_num, HN⟩
          · have hee := (unhide HS).stays he
            subst hee
            clear he he2
            go_wp2_with fail
            refine (unhide HE).mono ?_
            rintro e6 w3 ⟨rfl, hw3⟩
            rw [hw3]
            clear hw3 w3
            go_wp2_with fail
            refine (unhide HLe).mono ?_
            rintro e6 w3 ⟨rfl, hw3⟩
            rw [hw3]
            clear hw3 w3
            go_wp2_with fail
            refine (unhide HEn).mono ?_
            rintro e6 w3 ⟨rfl, hw3⟩
            rw [hw3]
            clear hw3 w3
            go_wp2
            go_roundg (gk - 1)
            case measure => have := unhide hj; omega
            case rel => exact ⟨j + 1, left2, e2, L2, by have := unhide hj; unfold Hid; omega, rfl, rfl, hL2, by go_num, HN⟩
      have k0' : decide (kind < 0) = false := decide_eq_false k0
      by_cases k6 : 6 < kind
      · have hG := hide (get_stick r u left e on 1 n (wr.alloc (.cells #[.int .i64 on, .int .i64 1, .int .i64 n] 57)) ((unhide HALL).1.alloc _) (by have := (unhide HALL).2.2.2.1; simp; omega) (unhide HALL).2.1 (Nat.le_trans (unhide HALL).2.2.1 hN) (by omega) hn)
        go_wp2_with fail
        refine (unhide hG).mono ?_
        rintro e5 w2 ⟨x, s, l, left2, e2, ⟨rfl, u2, hR2, hF2⟩, hS⟩
        have HN := hide (StAt.step (.cells #[.int .i64 on, .int .i64 1, .int .i64 n] 57) (.cells #[.int .u64 x, .string s, .int .i64 0] 59) hr (unhide HALL).2.2.2.1 (unhide HALL).2.2.2.2 hR2 hF2 hS.ok hS.len (unhide HALL).2.2.1)
        have HE := hide (rErr_any r u2 left2 e2 (w2.alloc (.cells #[.int .u64 x, .string s, .int .i64 0] 59)) (hR2.alloc _))
        have hLe := rLeft_any r u2 left2 e2 (w2.alloc (.cells #[.int .u64 x, .string s, .int .i64 0] 59)) (hR2.alloc _)
        have hEn := rEnd_any r u2 left2 e2 (w2.alloc (.cells #[.int .u64 x, .string s, .int .i64 0] 59)) (hR2.alloc _)
        obtain ⟨L2, hL2⟩ : ∃ L2, Hid (left2.length = L2) := ⟨_, rfl⟩
        rw [unhide hL2] at hLe
        have HLe := hide hLe
        have HEn := hide hEn
        have HS := hide hS
        clear hR2 hF2 hS hLe hEn hG HALL hk0 hk1 hk2
        dsimp only [GotV]
        by_cases he2 : e2 = 0
        · have he : e = 0 := by
            rcases Classical.em (e = 0) with q | q
            · exact q
            · exact absurd (((unhide HS).stays q).symm.trans he2) q
          subst he2 he
          have hle : L2 ≤ L := by have := (unhide HS).len; have := unhide hL; have := unhide hL2; omega
          have hge : decide ((L2 : Int) < 0) = false := decide_eq_false (by omega)
          go_wp2_with fail
          refine (unhide HE).mono ?_
          rintro e6 w3 ⟨rfl, hw3⟩
          rw [hw3]
          clear hw3 w3
          go_wp2_with fail
          refine (unhide HLe).mono ?_
          rintro e6 w3 ⟨rfl, hw3⟩
          rw [hw3]
          clear hw3 w3
          go_wp2
          go_roundg (gk - 1)
          case measure => have := unhide hj; omega
          case rel => exact ⟨j + 1, left2, 0, L2, by have := unhide hj; unfold Hid; omega, rfl, rfl, hL2, by go_num, HN⟩
        · obtain ⟨rfl, rfl, rfl, hlf⟩ := (unhide HS).zero he2
          have hLL : L2 = L := by rw [← unhide hL2, ← unhide hL, hlf]
          subst hLL
          have qe2 : (e2 != 0) = true := by rw [bne_iff_ne]; exact he2
          have hEnd := unhide HEn
          rw [show rEnd left2 e2 = e2 from if_neg he2] at hEnd
          have HEn := hide hEnd
          have hle : decide ((L2 : Int) < (L2 : Int)) = false := decide_eq_false (by omega)
          have hge : decide ((L2 : Int) < 0) = false := decide_eq_false (by omega)
          clear hEnd hlf
          by_cases he : e = 0
          · subst he
            clear he2
            go_wp2_with fail
            refine (unhide HE).mono ?_
            rintro e6 w3 ⟨rfl, hw3⟩
            rw [hw3]
            clear hw3 w3
            go_wp2_with fail
            refine (unhide HLe).mono ?_
            rintro e6 w3 ⟨rfl, hw3⟩
            rw [hw3]
            clear hw3 w3
            go_wp2_with fail
            refine (unhide HEn).mono ?_
            rintro e6 w3 ⟨rfl, hw3⟩
            rw [hw3]
            clear hw3 w3
            go_wp2
            go_roundg (gk - 1)
            case measure => have := unhide hj; omega
            case rel => exact ⟨j + 1, left2, e2, L2, by have := unhide hj; unfold Hid; omega, rfl, rfl, hL2, by go_num, HN⟩
          · have hee := (unhide HS).stays he
            subst hee
            clear he he2
            go_wp2_with fail
            refine (unhide HE).mono ?_
            rintro e6 w3 ⟨rfl, hw3⟩
            rw [hw3]
            clear hw3 w3
            go_wp2_with fail
            refine (unhide HLe).mono ?_
            rintro e6 w3 ⟨rfl, hw3⟩
            rw [hw3]
            clear hw3 w3
            go_wp2_with fail
            refine (unhide HEn).mono ?_
            rintro e6 w3 ⟨rfl, hw3⟩
            rw [hw3]
            clear hw3 w3
            go_wp2
            go_roundg (gk - 1)
            case measure => have := unhide hj; omega
            case rel => exact ⟨j + 1, left2, e2, L2, by have := unhide hj; unfold Hid; omega, rfl, rfl, hL2, by go_num, HN⟩
      have k6' : decide (6 < kind) = false := decide_eq_false k6
      have hG := hide (get_stick r u left e on kind n (wr.alloc (.cells #[.int .i64 on, .int .i64 kind, .int .i64 n] 57)) ((unhide HALL).1.alloc _) (by have := (unhide HALL).2.2.2.1; simp; omega) (unhide HALL).2.1 (Nat.le_trans (unhide HALL).2.2.1 hN) ⟨by omega, by omega⟩ hn)
      go_wp2_with fail
      refine (unhide hG).mono ?_
      rintro e5 w2 ⟨x, s, l, left2, e2, ⟨rfl, u2, hR2, hF2⟩, hS⟩
      have HN := hide (StAt.step (.cells #[.int .i64 on, .int .i64 kind, .int .i64 n] 57) (.cells #[.int .u64 x, .string s, .int .i64 0] 59) hr (unhide HALL).2.2.2.1 (unhide HALL).2.2.2.2 hR2 hF2 hS.ok hS.len (unhide HALL).2.2.1)
      have HE := hide (rErr_any r u2 left2 e2 (w2.alloc (.cells #[.int .u64 x, .string s, .int .i64 0] 59)) (hR2.alloc _))
      have hLe := rLeft_any r u2 left2 e2 (w2.alloc (.cells #[.int .u64 x, .string s, .int .i64 0] 59)) (hR2.alloc _)
      have hEn := rEnd_any r u2 left2 e2 (w2.alloc (.cells #[.int .u64 x, .string s, .int .i64 0] 59)) (hR2.alloc _)
      obtain ⟨L2, hL2⟩ : ∃ L2, Hid (left2.length = L2) := ⟨_, rfl⟩
      rw [unhide hL2] at hLe
      have HLe := hide hLe
      have HEn := hide hEn
      have HS := hide hS
      clear hR2 hF2 hS hLe hEn hG HALL hk0 hk1 hk2
      dsimp only [GotV]
      by_cases he2 : e2 = 0
      · have he : e = 0 := by
          rcases Classical.em (e = 0) with q | q
          · exact q
          · exact absurd (((unhide HS).stays q).symm.trans he2) q
        subst he2 he
        have hle : L2 ≤ L := by have := (unhide HS).len; have := unhide hL; have := unhide hL2; omega
        have hge : decide ((L2 : Int) < 0) = false := decide_eq_false (by omega)
        go_wp2_with fail
        refine (unhide HE).mono ?_
        rintro e6 w3 ⟨rfl, hw3⟩
        rw [hw3]
        clear hw3 w3
        go_wp2_with fail
        refine (unhide HLe).mono ?_
        rintro e6 w3 ⟨rfl, hw3⟩
        rw [hw3]
        clear hw3 w3
        go_wp2
        go_roundg (gk - 1)
        case measure => have := unhide hj; omega
        case rel => exact ⟨j + 1, left2, 0, L2, by have := unhide hj; unfold Hid; omega, rfl, rfl, hL2, by go_num, HN⟩
      · obtain ⟨rfl, rfl, rfl, hlf⟩ := (unhide HS).zero he2
        have hLL : L2 = L := by rw [← unhide hL2, ← unhide hL, hlf]
        subst hLL
        have qe2 : (e2 != 0) = true := by rw [bne_iff_ne]; exact he2
        have hEnd := unhide HEn
        rw [show rEnd left2 e2 = e2 from if_neg he2] at hEnd
        have HEn := hide hEnd
        have hle : decide ((L2 : Int) < (L2 : Int)) = false := decide_eq_false (by omega)
        have hge : decide ((L2 : Int) < 0) = false := decide_eq_false (by omega)
        clear hEnd hlf
        by_cases he : e = 0
        · subst he
          clear he2
          go_wp2_with fail
          refine (unhide HE).mono ?_
          rintro e6 w3 ⟨rfl, hw3⟩
          rw [hw3]
          clear hw3 w3
          go_wp2_with fail
          refine (unhide HLe).mono ?_
          rintro e6 w3 ⟨rfl, hw3⟩
          rw [hw3]
          clear hw3 w3
          go_wp2_with fail
          refine (unhide HEn).mono ?_
          rintro e6 w3 ⟨rfl, hw3⟩
          rw [hw3]
          clear hw3 w3
          go_wp2
          go_roundg (gk - 1)
          case measure => have := unhide hj; omega
          case rel => exact ⟨j + 1, left2, e2, L2, by have := unhide hj; unfold Hid; omega, rfl, rfl, hL2, by go_num, HN⟩
        · have hee := (unhide HS).stays he
          subst hee
          clear he he2
          go_wp2_with fail
          refine (unhide HE).mono ?_
          rintro e6 w3 ⟨rfl, hw3⟩
          rw [hw3]
          clear hw3 w3
          go_wp2_with fail
          refine (unhide HLe).mono ?_
          rintro e6 w3 ⟨rfl, hw3⟩
          rw [hw3]
          clear hw3 w3
          go_wp2_with fail
          refine (unhide HEn).mono ?_
          rintro e6 w3 ⟨rfl, hw3⟩
          rw [hw3]
          clear hw3 w3
          go_wp2
          go_roundg (gk - 1)
          case measure => have := unhide hj; omega
          case rel => exact ⟨j + 1, left2, e2, L2, by have := unhide hj; unfold Hid; omega, rfl, rfl, hL2, by go_num, HN⟩
    · have HBel := hide hBel
      clear hO hR hBk hlN hrb hBel
      go_wp2
      go_ret
      exact ⟨rfl, unhide HBel⟩
end Go.Proofs.Ytnfinplkeefdgaa
