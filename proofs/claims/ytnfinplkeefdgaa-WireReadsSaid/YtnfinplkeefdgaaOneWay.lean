/-
  P1.9: there is one way to write what is read.
-/
import Derived.Test.YtnfinplkeefdgaaOneMath
namespace Go.Proofs.Ytnfinplkeefdgaa
open Go.RowKit

/-- A writer and a reader that know nothing of one another. -/
structure Pair (w : World) (p : Nat) (v : Value) (out : List Int) (r rb : Nat) (u : Value) (left : List Int) (e : Int) : Prop where
  wr : Wtr w p v out
  rd : Rdr w r rb u left e
  pr : p ≠ r
  prb : p ≠ rb
  vr : v.ownBlock ≠ some r
  vrb : v.ownBlock ≠ some rb
  lt : rb < w.heap.size

theorem Pair.read {w w' : World} {p r rb : Nat} {v u u' : Value} {out left left' : List Int} {e e' : Int} (h : Pair w p v out r rb u left e) (hR : Rdr w' r rb u' left' e') (hF : RFr r w w') : Pair w' p v out r rb u' left' e' := by
  refine ⟨h.wr.keep hF h.pr (fun k hk e => h.vr (by rw [hk, e])), hR, h.pr, h.prb, h.vr, h.vrb, Nat.lt_of_lt_of_le h.lt hF.size⟩

theorem Pair.write {w w' : World} {p r rb : Nat} {v v' u : Value} {out out' left : List Int} {e : Int} (h : Pair w p v out r rb u left e) (hW : Wtr w' p v' out') (hT : WStep p w v w' v') : Pair w' p v' out' r rb u left e := by
  have hr := h.rd.lt
  have hnr : ¬ Foot p v r := by rintro (e | e); exact h.pr e.symm; exact h.vr e
  have hrow : ∀ k, k < w.heap.size → v.ownBlock ≠ some k → v'.ownBlock ≠ some k := fun k hk hn e => by
    rcases hT.row with q | q
    · exact hn (q ▸ e)
    · have := q k e; omega
  have hS : ∀ b off len cap, u = .slice (some ⟨b, off, none⟩) len cap → ¬ Foot p v b := fun b off len cap hv hf => by
    have hb := h.rd.ap b off len cap hv
    rcases hf with e | e
    · exact h.prb (e.symm.trans hb)
    · exact h.vrb (by rw [e, hb])
  refine ⟨hW, h.rd.keep hT.fr hnr hS, h.pr, h.prb, hrow r hr h.vr, hrow rb h.lt h.vrb, Nat.lt_of_lt_of_le h.lt hT.fr.size⟩

theorem Rd.shape {w : World} {v : Value} {bs : List Int} (h : Rd w v bs) : ∃ a cap, v = .slice a bs.length cap := by
  rcases h with ⟨rfl, rfl⟩ | ⟨b, off, cap, rfl, _⟩
  · exact ⟨none, 0, rfl⟩
  · exact ⟨_, cap, rfl⟩
/-- A slice of ints reads so. -/
def RdI (w : World) (v : Value) (zs : List Int) : Prop :=
  ∃ a cap, v = .slice a zs.length cap ∧ ∀ i, i < zs.length → ∃ b off, a = some ⟨b, off, none⟩ ∧ b < w.heap.size ∧ w.cell? ⟨b, off + i, none⟩ = some (.int .i64 (zs.getD i 0))

/-- What a new writer writes, closed. -/
theorem written_two (w : World) :
    Calls Try.prog 9 #[.agg #[.int .i64 0, .int .i64 1, .int .u64 300, .string ByteArray.empty]] w fun e w' => ∃ g cap, e = .returned (.tuple #[.slice (some ⟨g, 0, none⟩) 2 cap, .bool true]) ∧ g < w'.heap.size ∧
      w'.cell? ⟨g, 0, none⟩ = some (.int .u8 172) ∧ w'.cell? ⟨g, 1, none⟩ = some (.int .u8 2) ∧ Below w.heap.size w w' := by
  refine (written_any 0 1 300 ByteArray.empty w (by decide) (by decide) (by decide)).mono ?_
  rintro e w' ⟨v, rfl, ho, hB⟩
  rw [show pform 1 300 ByteArray.empty = [172, 2] from by kernel_rfl] at ho
  obtain ⟨g, cap, rfl, _, h2, h3⟩ := own_cells ho (by simp)
  exact ⟨g, cap, rfl, h2, h3 0 (by simp), h3 1 (by simp), hB⟩

theorem chainB1 {w w1 w2 : World} (h : Below w.heap.size w w1) (f : Below w1.heap.size w1 w2) : Below w.heap.size w w2 := h.trans (f.mono h.size)
/-- What holds ahead of a round. -/
def OneAt (w0 : World) (bs : List Int) (p r rb j : Nat) (w : World) : Prop :=
  ∃ v out u left e, Pair w p v out r rb u left e ∧ BOk left ∧ (e = 0 → out ++ left = bs) ∧ out.length + left.length ≤ bs.length + 8 * j ∧ Below w0.heap.size w0 w ∧ ∀ k, v.ownBlock = some k → w0.heap.size ≤ k

theorem pairBelow {w0 w w' : World} {p : Nat} {v v' : Value} (h : Below w0.heap.size w0 w) (hp : w0.heap.size ≤ p) (hv : ∀ k, v.ownBlock = some k → w0.heap.size ≤ k) (hT : WStep p w v w' v') : Below w0.heap.size w0 w' := by
  refine h.trans (hT.fr.below h.size ?_)
  rintro k hk (e | e)
  · omega
  · have := hv k e; omega

theorem OneAt.step {w0 w w3 w4 : World} {bs out left form left2 : List Int} {p r rb j : Nat} {v v2 u2 : Value} {e e2 : Int} (hp : w0.heap.size ≤ p) (hr : w0.heap.size ≤ r)
    (hE : e = 0 → out ++ left = bs) (hlen : out.length + left.length ≤ bs.length + 8 * j) (hBel : Below w0.heap.size w0 w) (hv : ∀ k, v.ownBlock = some k → w0.heap.size ≤ k)
    (hs : Step left e form left2 e2) (hP : Pair w4 p v2 (out ++ form) r rb u2 left2 e2) (hF : RFr r w w3) (hT : WStep p w3 v w4 v2) : OneAt w0 bs p r rb (j + 1) w4 := by
  have hB3 : Below w0.heap.size w0 w3 := hBel.trans (hF.below hBel.size (by intro k hk e; omega))
  refine ⟨v2, out ++ form, u2, left2, e2, hP, hs.ok, fun he => ?_, ?_, pairBelow hB3 hp hv hT, fun k hk => ?_⟩
  · obtain ⟨h1, h2⟩ := hs.same he
    rw [List.append_assoc, h2]; exact hE h1
  · have := hs.len
    rw [List.length_append]; omega
  · rcases hT.row with q | q
    · exact hv k (q ▸ hk)
    · have := q k hk
      have := hB3.size
      omega

set_option maxHeartbeats 3200000 in
set_option maxRecDepth 100000 in
theorem oneWay_walk (va rw0 : Value) (bs zs : List Int) (w : World) (hb : Rd w va bs) (hB : BOk bs) (hN : bs.length ≤ 1048576) (hrow : RdI w rw0 zs) (hM : zs.length ≤ 1048576) :
    Calls Try.prog 6 #[va, rw0] w fun e w' => e = .returned (.bool true) ∧ Below w.heap.size w w' := by
  obtain ⟨a0, cap0, hva⟩ := hb.shape
  obtain ⟨a1, cap1, rfl, hcell⟩ := hrow
  rw [hva]
  have Hb := hide hb
  have HB := hide hB
  have HVA := hide hva
  have HC := hide hcell
  obtain ⟨N, hNN⟩ : ∃ N, Hid (bs.length = N) := ⟨_, rfl⟩
  obtain ⟨M, hMM⟩ : ∃ M, Hid (zs.length = M) := ⟨_, rfl⟩
  rw [unhide hNN] at hN ⊢
  rw [unhide hMM] at hM ⊢
  clear hb hB hcell hva
  go_enter Try.func6, Try.ntmps6
  go_wp2_with fail
  refine (written_two w).mono ?_
  rintro e w1 ⟨g, cg, rfl, hg, hg0, hg1, hB1⟩
  have HB1 := hide hB1
  clear hB1
  go_wp2_with fail
  refine (newWriter_any w1 w1.heap.size rfl).mono ?_
  rintro e w2 ⟨rfl, hW2, hB2, hlt2⟩
  have HW2 := hide hW2
  have HB2 := hide (chainB1 (unhide HB1) hB2)
  have hRd2 := hide (((unhide Hb).below (unhide HB1)).below hB2)
  have HB2' := hide hB2
  clear hW2 hB2 hg0 hg1
  go_wp2_with fail
  have hNR := newReader_at g va bs w2 (unhide hRd2) (by have := unhide hNN; omega) (by omega)
  rw [unhide HVA, unhide hNN] at hNR
  refine hNR.mono ?_
  rintro e w3 ⟨r, rb, u0, rfl, hr, hrb, hrb2, hR3, hB3⟩
  have hp : w.heap.size ≤ w1.heap.size := (unhide HB1).size
  have hr' : w.heap.size ≤ r := by omega
  have hP0 : Pair w3 w1.heap.size (.slice none 0 0) [] r rb u0 bs 0 :=
    ⟨(unhide HW2).keep (Fr.of_below (S := fun _ => False) hB3) (by simp) (by simp), hR3, by omega, by omega, by simp [Value.ownBlock], by simp [Value.ownBlock], hrb2⟩
  have h0 : Hid (OneAt w bs w1.heap.size r rb 0 w3) := ⟨_, [], u0, bs, 0, hP0, unhide HB, fun _ => rfl, by simp, chainB1 (unhide HB2) hB3, by simp [Value.ownBlock]⟩
  generalize w1.heap.size = p at *
  clear hR3 hB3 hP0 hNR hrb hrb2
  go_wp2
  go_loopg [9] M (fun k s wr => ∃ j : Nat, Hid (j + k = M) ∧ s = .int .i64 (j : Int) ∧ Hid (OneAt w bs p r rb j wr))
  case atStart => exact ⟨0, by unfold Hid; omega, rfl, h0⟩
  case round =>
    obtain ⟨j, hj, rfl, hO⟩ := hrel
    obtain ⟨v, out, u, left, e, hP, hBk, hE, hlen, hBel, hv⟩ := unhide hO
    by_cases hlt : j < M
    · obtain ⟨cb, co, rfl, hcb, hc⟩ := unhide HC j (by rw [unhide hMM]; exact hlt)
      have hcell : wr.cell? ⟨cb, co + j, none⟩ = some (.int .i64 (zs.getD j 0)) := (hBel.cell (p := ⟨cb, co + j, none⟩) hcb).trans hc
      have i0 : (0 : Int) ≤ (j : Int) := by omega
      have i1 : (j : Int) < (M : Int) := by omega
      have hob : out.length + left.length ≤ 9437184 := by have := unhide hNN; omega
      generalize zs.getD j 0 = z at *
      have HALL : Hid True := trivial
      clear hc hO
      by_cases z0 : z = 0
      · subst z0
        obtain ⟨b, left2, e2, hres, hstep⟩ := stepByte left e hBk
        have hRd := rByte_any r u left e wr hP.rd
        rw [hres] at hRd
        have HRd := hide hRd
        have Hstep := hide hstep
        clear hRd hres hstep HALL
        have HALL := hide (And.intro hP (And.intro hE (And.intro hlen (And.intro hBel hv))))
        clear hP hE hlen hBel hv hBk
        go_wp2_with fail
        refine (unhide HRd).mono ?_
        rintro e5 w3 ⟨rfl, u2, hR3, hF3⟩
        have hP2 := (unhide HALL).1.read hR3 hF3
        have hWr := hide (byte_any p v out b w3 hP2.wr (by omega))
        have HP2 := hide (And.intro hP2 hF3)
        clear hR3 hF3 hP2
        go_wp2_with fail
        refine (unhide hWr).mono ?_
        rintro e6 w4 ⟨rfl, v2, hW4, hT4⟩
        have HN := hide (OneAt.step hp hr' (unhide HALL).2.1 (unhide HALL).2.2.1 (unhide HALL).2.2.2.1 (unhide HALL).2.2.2.2 (unhide Hstep) ((unhide HP2).1.write hW4 hT4) (unhide HP2).2 hT4)
        clear hW4 hT4
        go_wp2
        go_roundg (gk - 1)
        case measure => have := unhide hj; omega
        case rel => exact ⟨j + 1, by have := unhide hj; unfold Hid; omega, by go_num, HN⟩
      by_cases z1 : z = 1
      · subst z1
        obtain ⟨x, left2, e2, hres, hx, hstep⟩ := stepUint left e hBk
        have hRd := rUint_any r u left e wr hP.rd hBk
        rw [hres] at hRd
        have HRd := hide hRd
        have Hstep := hide hstep
        clear hRd hres hstep HALL
        have HALL := hide (And.intro hP (And.intro hE (And.intro hlen (And.intro hBel hv))))
        clear hP hE hlen hBel hv hBk
        go_wp2_with fail
        refine (unhide HRd).mono ?_
        rintro e5 w3 ⟨rfl, u2, hR3, hF3⟩
        have hP2 := (unhide HALL).1.read hR3 hF3
        have hWr := hide (uint_any p v out x w3 hP2.wr (by omega) hx)
        have HP2 := hide (And.intro hP2 hF3)
        clear hR3 hF3 hP2
        go_wp2_with fail
        refine (unhide hWr).mono ?_
        rintro e6 w4 ⟨rfl, v2, hW4, hT4⟩
        have HN := hide (OneAt.step hp hr' (unhide HALL).2.1 (unhide HALL).2.2.1 (unhide HALL).2.2.2.1 (unhide HALL).2.2.2.2 (unhide Hstep) ((unhide HP2).1.write hW4 hT4) (unhide HP2).2 hT4)
        clear hW4 hT4
        go_wp2
        go_roundg (gk - 1)
        case measure => have := unhide hj; omega
        case rel => exact ⟨j + 1, by have := unhide hj; unfold Hid; omega, by go_num, HN⟩
      by_cases z2 : z = 2
      · subst z2
        obtain ⟨n, left2, e2, hres, hn, hstep⟩ := stepInt left e hBk
        have hRd := rInt_any r u left e wr hP.rd hBk
        rw [hres] at hRd
        have HRd := hide hRd
        have Hstep := hide hstep
        clear hRd hres hstep HALL
        have HALL := hide (And.intro hP (And.intro hE (And.intro hlen (And.intro hBel hv))))
        clear hP hE hlen hBel hv hBk
        go_wp2_with fail
        refine (unhide HRd).mono ?_
        rintro e5 w3 ⟨rfl, u2, hR3, hF3⟩
        have hP2 := (unhide HALL).1.read hR3 hF3
        have hWr := hide (int_any p v out n w3 hP2.wr (by omega) hn.1 hn.2)
        have HP2 := hide (And.intro hP2 hF3)
        clear hR3 hF3 hP2
        go_wp2_with fail
        refine (unhide hWr).mono ?_
        rintro e6 w4 ⟨rfl, v2, hW4, hT4⟩
        have HN := hide (OneAt.step hp hr' (unhide HALL).2.1 (unhide HALL).2.2.1 (unhide HALL).2.2.2.1 (unhide HALL).2.2.2.2 (unhide Hstep) ((unhide HP2).1.write hW4 hT4) (unhide HP2).2 hT4)
        clear hW4 hT4
        go_wp2
        go_roundg (gk - 1)
        case measure => have := unhide hj; omega
        case rel => exact ⟨j + 1, by have := unhide hj; unfold Hid; omega, by go_num, HN⟩
      by_cases z3 : z = 3
      · subst z3
        obtain ⟨x, left2, e2, hres, hx, hstep⟩ := stepWord left e hBk
        have hRd := rWord_any r u left e wr hP.rd hBk
        rw [hres] at hRd
        have HRd := hide hRd
        have Hstep := hide hstep
        clear hRd hres hstep HALL
        have HALL := hide (And.intro hP (And.intro hE (And.intro hlen (And.intro hBel hv))))
        clear hP hE hlen hBel hv hBk
        go_wp2_with fail
        refine (unhide HRd).mono ?_
        rintro e5 w3 ⟨rfl, u2, hR3, hF3⟩
        have hP2 := (unhide HALL).1.read hR3 hF3
        have hWr := hide (word_any p v out x w3 hP2.wr (by omega))
        have HP2 := hide (And.intro hP2 hF3)
        clear hR3 hF3 hP2
        go_wp2_with fail
        refine (unhide hWr).mono ?_
        rintro e6 w4 ⟨rfl, v2, hW4, hT4⟩
        have HN := hide (OneAt.step hp hr' (unhide HALL).2.1 (unhide HALL).2.2.1 (unhide HALL).2.2.2.1 (unhide HALL).2.2.2.2 (unhide Hstep) ((unhide HP2).1.write hW4 hT4) (unhide HP2).2 hT4)
        clear hW4 hT4
        go_wp2
        go_roundg (gk - 1)
        case measure => have := unhide hj; omega
        case rel => exact ⟨j + 1, by have := unhide hj; unfold Hid; omega, by go_num, HN⟩
      have q0 : (z == 0) = false := by rw [beq_eq_false_iff_ne]; exact z0
      have q1 : (z == 1) = false := by rw [beq_eq_false_iff_ne]; exact z1
      have q2 : (z == 2) = false := by rw [beq_eq_false_iff_ne]; exact z2
      have q3 : (z == 3) = false := by rw [beq_eq_false_iff_ne]; exact z3
      clear z0 z1 z2 z3
      obtain ⟨s, left2, e2, hres, hx, hstep⟩ := stepText (bs.length : Int) left e hBk
      have hRd := rText_any r u left e (bs.length : Int) wr hP.rd hBk (by have := unhide hNN; omega)
      rw [hres] at hRd
      rw [unhide hNN] at hRd
      have HRd := hide hRd
      have Hstep := hide hstep
      clear hRd hres hstep HALL
      have HALL := hide (And.intro hP (And.intro hE (And.intro hlen (And.intro hBel hv))))
      clear hP hE hlen hBel hv hBk
      go_wp2_with fail
      refine (unhide HRd).mono ?_
      rintro e5 w3 ⟨rfl, u2, hR3, hF3⟩
      have hP2 := (unhide HALL).1.read hR3 hF3
      have hWr := hide (text_any p v out s w3 hP2.wr (by omega))
      have HP2 := hide (And.intro hP2 hF3)
      clear hR3 hF3 hP2
      go_wp2_with fail
      refine (unhide hWr).mono ?_
      rintro e6 w4 ⟨rfl, v2, hW4, hT4⟩
      have HN := hide (OneAt.step hp hr' (unhide HALL).2.1 (unhide HALL).2.2.1 (unhide HALL).2.2.2.1 (unhide HALL).2.2.2.2 (unhide Hstep) ((unhide HP2).1.write hW4 hT4) (unhide HP2).2 hT4)
      clear hW4 hT4
      go_wp2
      go_roundg (gk - 1)
      case measure => have := unhide hj; omega
      case rel => exact ⟨j + 1, by have := unhide hj; unfold Hid; omega, by go_num, HN⟩
    · have hEn := hide (rEnd_any r u left e wr hP.rd)
      have hob : out.length ≤ 9437184 := by have := unhide hNN; have := unhide hj; omega
      by_cases hend : rEnd left e = 0
      · rw [hend] at hEn
        have he : e = 0 := by
          unfold rEnd at hend
          split at hend
          · assumption
          · exact hend
        have hl0 : left = [] := by
          unfold rEnd at hend
          rw [if_pos he] at hend
          split at hend
          · exact List.eq_nil_of_length_eq_zero (by assumption)
          · omega
        have hob2 : out = bs := by have := hE he; rw [hl0, List.append_nil] at this; exact this
        have hDn := done_any p v out wr hP.wr (by omega)
        have HBel := hide hBel
        rw [hob2] at hDn
        have HDn := hide hDn
        clear hend he hl0 hob2 hDn hO hP hE hlen hBel hv hBk hob
        go_wp2_with fail
        refine (unhide hEn).mono ?_
        rintro e5 w5 ⟨rfl, hw5⟩
        rw [hw5]
        clear hw5 w5
        go_wp2_with fail
        refine (unhide HDn).mono ?_
        rintro e5 w5 ⟨v5, rfl, ho5, hB5⟩
        have hB6 := hide (chainB1 (unhide HBel) hB5)
        have hS := same_any v5 va bs w5 (Rd.of_own ho5) ((unhide Hb).below (unhide hB6))
        rw [unhide HVA, unhide hNN] at hS
        have HS := hide hS
        clear hS ho5 hB5
        go_wp2_with fail
        refine (unhide HS).mono ?_
        rintro e6 w6 ⟨rfl, k6, rfl⟩
        go_wp2
        go_ret
        exact ⟨rfl, below_drewN (unhide hB6) _⟩
      · have q : (rEnd left e != 0) = true := by rw [bne_iff_ne]; exact hend
        have HBel := hide hBel
        generalize rEnd left e = x at *
        clear hend hO hP hE hlen hBel hv hBk hob
        go_wp2_with fail
        refine (unhide hEn).mono ?_
        rintro e5 w5 ⟨rfl, hw5⟩
        rw [hw5]
        clear hw5 w5
        go_wp2
        go_ret
        exact ⟨rfl, unhide HBel⟩
end Go.Proofs.Ytnfinplkeefdgaa
