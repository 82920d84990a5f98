/-
  The document's Encode.
-/
import Derived.Test.YtjifgnpcadeonaaWPut
import Derived.Test.YtjifgnpcadeonaaJoins
namespace Go.Proofs.Ytjifgnpcadeonaa
open Go.RowKit
set_option linter.unusedVariables false

theorem RG.below {base : Nat} {l0 l : Value} {w0 w1 w : World} {bs : List Int} (b : Below w0.heap.size w0 w1) (h : RG base l0 w1 l bs w) : RG base l0 w0 l bs w := by
  refine ⟨h.own, ⟨h.fr.os.trans b.os, h.fr.tape.trans b.tape, h.fr.output.trans b.output, Nat.le_trans b.size h.fr.size, fun i hi hn => (h.fr.block i (Nat.lt_of_lt_of_le hi b.size) hn).trans (b.block i hi)⟩, ?_⟩
  rcases h.at' with q | ⟨k, q, hk⟩
  · exact .inl q
  · exact .inr ⟨k, q, Nat.le_trans b.size hk⟩
theorem own_below {w w' : World} {base : Nat} {e : TypeId} {v : Value} {n : Nat} {xs : List Value} (h : w.ownsRow base e 1 v n xs) (b : Below w.heap.size w w') : w'.ownsRow base e 1 v n xs :=
  own_keepT h (fun g hg => b.block g (h.lt g hg).2)

set_option maxRecDepth 100000 in
set_option maxHeartbeats 4000000 in
theorem dPut_any (base : Nat) (l0 : Value) (bs : List Int) (k : Nat) (hk : k < 67) (a : Int) (ha : I64 a) (w : World) (h : w.ownsRow base 5 1 l0 bs.length (bs.map By)) (hbase : base ≤ w.heap.size) (hb : bs.length + 20 ≤ 140737488355328) :
    Calls Try.prog 27 #[l0, .agg #[.int .i64 (k : Int), .int .i64 a]] w fun e w' => ∃ l, e = .returned l ∧ RG base l0 w l (bs ++ ifm ((k : Int), a)) w' := by
  obtain ⟨i0, hi0, hz0, hz1, hz2⟩ := info_parts Try.info5
  have HD := hide (fun w => dOperand_any w (k : Int))
  rw [kdI_nat hk, isOp_nat hk] at HD
  have HOW := hide h
  have eF : Hid (ifm ((k : Int), a) = (k : Int) :: opF (kd k) a) := by unfold Hid ifm; simp
  have hwk : IntKind.u8.wrap (k : Int) = (k : Int) := by rw [IntKind.wrap_u8]; omega
  obtain ⟨d, hd⟩ : ∃ d, Hid (d = kd k) := ⟨_, rfl⟩
  rw [← unhide hd] at HD
  have HPI := hide (fun (l : Value) (w : World) (h : w.ownsRow base 5 1 l (bs ++ [(k : Int)]).length ((bs ++ [(k : Int)]).map By)) (hb2 : base ≤ w.heap.size) => putInt_any base l (bs ++ [(k : Int)]) a w h hb2 (by rw [List.length_append, List.length_singleton]; omega) ha.1 ha.2)
  have HPU := hide (fun (l : Value) (w : World) (h : w.ownsRow base 5 1 l (bs ++ [(k : Int)]).length ((bs ++ [(k : Int)]).map By)) (hb2 : base ≤ w.heap.size) => putUint_any base l (bs ++ [(k : Int)]) (a % 18446744073709551616).toNat w h hb2 (by rw [List.length_append, List.length_singleton]; omega) (by omega))
  have hwu := wrap_u a
  obtain ⟨X, hX⟩ : ∃ X, Hid (X = (a % 18446744073709551616).toNat) := ⟨_, rfl⟩
  rw [← unhide hX] at HPU hwu
  obtain ⟨n, hn⟩ : ∃ n, Hid (bs.length = n) := ⟨_, rfl⟩
  rw [unhide hn] at hb
  have HBA := hide hbase
  clear h ha hbase
  go_enter Try.func27, Try.ntmps27
  go_wp2_with fail
  refine (unhide HD _).mono ?_
  rintro e w1 ⟨rfl, hb1⟩
  obtain ⟨c0, c1⟩ := par_cells hb1
  have hb1' := Bl.par hb1
  have HO := hide (own_below (unhide HOW) hb1')
  have B1 := hide hb1'
  have hpl := World.block_lt_of_cell? _ _ c1
  have HHH : Hid (base ≤ w1.heap.size) := Nat.le_trans (unhide HBA) hb1'.size
  clear hb1 hb1'
  go_wp2_with (first | (at_builtin; refine wpList_append_own_at _ rfl _ _ 23 rfl base 5 i0 (.int .u8 0) 1 1 Try.underlying23 hi0 hz0 hz1 hz2 rfl (by decide) _ _ _ rfl ((unhide HO).alloc _) ⟨w1.heap.size, 0, none⟩ 1 1 [.int .u8 (k : Int)] rfl rfl (cell_one_new _ _ _) (by simp [Value.oneCell']) (by have := unhide hn; unfold maxLen; omega) (by have := unhide hn; omega) (by have := unhide HHH; simp; omega) ?_))
  intro v' w2 hown' hgrow hnil hat
  have R2 : Hid (RG base l0 w1 v' (bs ++ [(k : Int)]) w2) := (RG.start (unhide HO)).step hown' (by rfl) (by simp) hgrow hat
  have d1 : w2.cell? ⟨w.heap.size, 1, none⟩ = some (.int .i64 a) := ((unhide R2).fr.cell (a := ⟨w.heap.size, 1, none⟩) hpl (fun e => absurd ((unhide HOW).lt w.heap.size e).2 (Nat.lt_irrefl _))).trans c1
  have hsz : Hid (base ≤ w2.heap.size) := Nat.le_trans (unhide HHH) (unhide R2).fr.size
  clear hown' hgrow hnil hat c0 c1
  by_cases h1 : d = 1
  · have KP := hide (unhide HPI v' w2 (unhide R2).own (unhide hsz))
    have e : Hid (ifm ((k : Int), a) = (k : Int) :: Wm.uform 9 (foldI a).toNat) := by unfold Hid; rw [unhide eF, ← unhide hd, h1]; rfl
    subst h1
    go_wp2_with fail
    refine (unhide KP).mono ?_
    rintro e3 w3 ⟨l3, rfl, hR3⟩
    have R3 := hide hR3
    clear hR3
    go_wp2_with fail
    go_ret
    refine ⟨l3, rfl, ?_⟩
    have q := ((unhide R2).trans (unhide R3)).below (unhide B1)
    rw [unhide e]
    simpa using q
  · have h1' : ((d : Int) == 1) = false := by simp; omega
    by_cases h0 : d = 0
    · have e : Hid (ifm ((k : Int), a) = [(k : Int)]) := by unfold Hid; rw [unhide eF, ← unhide hd, h0]; rfl
      subst h0
      go_wp2_with fail
      go_ret
      refine ⟨v', rfl, ?_⟩
      rw [unhide e]
      exact (unhide R2).below (unhide B1)
    · have h0' : ((d : Int) != 0) = true := by simp; omega
      have KP := hide (unhide HPU v' w2 (unhide R2).own (unhide hsz))
      have e : Hid (ifm ((k : Int), a) = (k : Int) :: Wm.uform 9 X) := by unfold Hid; rw [unhide eF, ← unhide hd, unhide hX]; unfold opF; rw [if_neg h0, if_neg h1]
      clear h0 h1
      go_wp2_with fail
      refine (unhide KP).mono ?_
      rintro e3 w3 ⟨l3, rfl, hR3⟩
      have R3 := hide hR3
      clear hR3
      go_wp2_with fail
      go_ret
      refine ⟨l3, rfl, ?_⟩
      have q := ((unhide R2).trans (unhide R3)).below (unhide B1)
      rw [unhide e]
      simpa using q

set_option maxRecDepth 100000 in
set_option maxHeartbeats 4000000 in
theorem dEncode_any {w : World} {lv : Value} {l : List (Int × Int)} (h : RtV w lv l) (hN : l.length ≤ 8796093021952) (hI : ∀ p ∈ l, I64 p.1 ∧ I64 p.2) :
    Calls Try.prog 9 #[lv] w fun e w' => EncPost w l e w' := by
  obtain ⟨a0, cap, rfl, hlc, hcm, hcell⟩ := h
  have HC := hide hcell
  obtain ⟨L, hL⟩ : ∃ L, Hid (l.length = L) := ⟨_, rfl⟩
  rw [unhide hL] at hN hlc ⊢
  clear hcell
  by_cases h2 : 2000 < L
  · have HE : Hid (encE l = 5 ∧ encB l = []) := by
      have e : encE l = 5 := by unfold encE; rw [if_pos (by rw [unhide hL]; exact h2)]
      exact ⟨e, by unfold encB; rw [e]; rfl⟩
    clear hI HC
    go_enter Try.func9, Try.ntmps9
    go_wp2_with fail
    go_ret2
    refine ⟨.slice none 0 0, by rw [(unhide HE).1]; rfl, ?_, Below.refl _ _⟩
    rw [(unhide HE).2]
    exact World.ownsRow_nil _ _ _ _
  · have HII := hide hI
    clear hI
    go_enter Try.func9, Try.ntmps9
    go_wp2_with fail
    go_loopg [4, 5] L (fun g t4 t5 wr => ∃ (i : Nat) (v : Value), Hid (i + g = L) ∧ t4 = v ∧ t5 = .int .i64 (i : Int) ∧ Hid (wr.ownsRow w.heap.size 5 1 v (efm (l.take i)).length ((efm (l.take i)).map By) ∧ Below w.heap.size w wr ∧ okL (l.take i) = true))
    case atStart => exact ⟨0, _, by unfold Hid; omega, rfl, rfl, by simpa [efm] using World.ownsRow_nil _ _ _ _, Below.refl _ _, by simp [okL]⟩
    case round =>
      obtain ⟨i, v, hi, rfl, rfl, hJ⟩ := hrel
      by_cases hlt : i < L
      · have hil : i < l.length := by rw [unhide hL]; exact hlt
        obtain ⟨⟨op, a⟩, hpr⟩ : ∃ q, l[i]? = some q := ⟨_, List.getElem?_eq_getElem hil⟩
        obtain ⟨b, off, rfl, hb, c0, c1⟩ := unhide HC i _ hpr
        obtain ⟨hIo, hIa⟩ := unhide HII _ (List.mem_of_getElem? hpr)
        simp only at hIo hIa
        have hs := (unhide hJ).2.1
        have k0 := (hs.cell (p := ⟨b, off + i * 2, none⟩) hb).trans c0
        have k1 := (hs.cell (p := ⟨b, off + i * 2 + 1, none⟩) hb).trans c1
        have hbr := Nat.lt_of_lt_of_le hb hs.size
        have i0 : (0 : Int) ≤ (i : Int) := by omega
        have i1 : (i : Int) < (L : Int) := by omega
        have htk : Hid (l.take (i + 1) = l.take i ++ [(op, a)]) := itake_push l i _ hpr
        have hbl : Hid ((efm (l.take i)).length ≤ 22000) := by
          have := efm_len (l.take i)
          have : (l.take i).length ≤ i := List.length_take_le _ _
          unfold Hid; omega
        have HP := hide hpr
        have HIA := hide hIa
        have HB := hide hb
        have HC0 := hide c0
        have HC1 := hide c1
        have HCk := hide (fun w => dCheck_any w op a hIa)
        have Hk : Hid (erN op a = if okB op a then 0 else 7) := rfl
        clear hs c0 c1 hpr hIo hIa hil
        cases hok : okB op a
        · have her : erN op a = 7 := by rw [unhide Hk, hok]; rfl
          rw [her] at HCk
          have HE : Hid (encE l = 7 ∧ encB l = []) := by
            have e : encE l = 7 := by unfold encE; rw [if_neg (by rw [unhide hL]; exact h2), okL_no (unhide HP) hok]; rfl
            exact ⟨e, by unfold encB; rw [e]; rfl⟩
          clear her hok Hk
          go_wp2_with fail
          refine (unhide HCk _).mono ?_
          rintro e w2 ⟨rfl, hb2⟩
          have B2 := hide hb2
          clear hb2
          go_wp2_with fail
          go_ret2
          refine ⟨.slice none 0 0, by rw [(unhide HE).1]; rfl, ?_, Bl.go (unhide hJ).2.1 (unhide hJ).2.1.size (unhide B2)⟩
          rw [(unhide HE).2]
          exact World.ownsRow_nil _ _ _ _
        · have her : erN op a = 0 := by rw [unhide Hk, hok]; rfl
          rw [her] at HCk
          have hop : isOp op = true := by simp [okB] at hok; exact hok.1
          have ho : 0 ≤ op ∧ op < 67 := by simpa [isOp] using hop
          obtain ⟨k, rfl⟩ : ∃ k : Nat, op = k := ⟨op.toNat, by omega⟩
          have HK67 : Hid (k < 67) := by unfold Hid; omega
          have HOK := hide hok
          clear her hok Hk hop ho
          go_wp2_with fail
          refine (unhide HCk _).mono ?_
          rintro e w2 ⟨rfl, hb2⟩
          have hs2 := Bl.go (unhide hJ).2.1 (unhide hJ).2.1.size hb2
          have k0' := (hs2.cell (p := ⟨b, off + i * 2, none⟩) (unhide HB)).trans (unhide HC0)
          have k1' := (hs2.cell (p := ⟨b, off + i * 2 + 1, none⟩) (unhide HB)).trans (unhide HC1)
          have hbr2 := Nat.lt_of_lt_of_le (unhide HB) hs2.size
          have KP := hide (dPut_any w.heap.size _ (efm (l.take i)) k (unhide HK67) a (unhide HIA) w2 (own_below (unhide hJ).1 hb2) hs2.size (by have := unhide hbl; omega))
          have B2 := hide hs2
          clear hb2 hs2 k0 k1 hbr
          go_wp2_with fail
          refine (unhide KP).mono ?_
          rintro e w3 ⟨l3, rfl, hR3⟩
          have R3 := hide hR3
          clear hR3 KP
          go_wp2_with fail
          go_roundg (gk - 1)
          case measure => have := unhide hi; omega
          case rel =>
            refine ⟨i + 1, l3, by have := unhide hi; unfold Hid; omega, rfl, by go_num, ?_⟩
            unfold Hid
            rw [unhide htk, efm_push]
            refine ⟨(unhide R3).own, (unhide B2).trans ((unhide R3).fr.below (unhide B2).size (fun q hq e => ?_)), ?_⟩
            · have := ((unhide hJ).1.lt q e).1
              omega
            · have q := (unhide hJ).2.2
              unfold okL at q ⊢
              rw [List.all_append, q]
              simpa using unhide HOK
      · have hiL : i = L := by have := unhide hi; omega
        subst hiL
        have hT : l.take i = l := List.take_of_length_le (by rw [unhide hL]; exact Nat.le_refl _)
        obtain ⟨hJ1, hJ2, hJ3⟩ := unhide hJ
        rw [hT] at hJ1 hJ3
        have HE : Hid (encE l = 0 ∧ encB l = efm l) := by
          have e : encE l = 0 := by unfold encE; rw [if_neg (by rw [unhide hL]; exact h2), hJ3]; rfl
          exact ⟨e, by unfold encB; rw [if_pos e]⟩
        have J1 := hide hJ1
        have J2 := hide hJ2
        clear hT hJ1 hJ2 hJ3 hJ HII HC
        go_wp2_with fail
        go_ret2
        refine ⟨_, by rw [(unhide HE).1]; rfl, ?_, unhide J2⟩
        rw [(unhide HE).2]
        exact unhide J1
end Go.Proofs.Ytjifgnpcadeonaa
