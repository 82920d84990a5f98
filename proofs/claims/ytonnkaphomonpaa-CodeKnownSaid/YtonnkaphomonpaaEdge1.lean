/-
  Put of any operation; reads; edges; long.
-/
import Derived.Test.YtonnkaphomonpaaDEnc
import Derived.Test.YtonnkaphomonpaaDDec2
import Derived.Test.YtonnkaphomonpaaLKinds
namespace Go.Proofs.Ytonnkaphomonpaa
open Go.RowKit
set_option linter.unusedVariables false

def kdN (k : Nat) : Nat := if k < 67 then kd k else 0
theorem kdN_eq (k : Nat) : kdI (k : Int) = (kdN k : Int) := by
  unfold kdN
  split
  · rename_i h; exact kdI_nat h
  · rename_i h; rw [kdI_no (by omega)]; rfl
/-- The form of any operation with any operand. -/
def pfm (k : Nat) (a : Int) : List Int := (k : Int) :: opF (kdN k) a
theorem pfm_bok (k : Nat) (hk : k < 256) (a : Int) (ha : I64 a) : BOk (pfm k a) := by
  have e : pfm k a = [(k : Int)] ++ opF (kdN k) a := rfl
  rw [e]
  refine BOk.append (fun x hx => by simp at hx; omega) ?_
  unfold opF
  have hb := foldI_bd a ha.1 ha.2
  split
  · intro x hx; cases hx
  · split
    · exact uform_bok 9 _ (by omega)
    · exact uform_bok 9 _ (by omega)
theorem pfm_len (k : Nat) (a : Int) : (pfm k a).length ≤ 11 := by have := opF_len (kdN k) a; simp [pfm]; omega

set_option maxRecDepth 100000 in
set_option maxHeartbeats 4000000 in
theorem dPutG_any (base : Nat) (l0 : Value) (bs : List Int) (k : Nat) (hk : k < 256) (a : Int) (ha : I64 a) (w : World) (h : w.ownsRow base 5 1 l0 bs.length (bs.map By)) (hbase : base ≤ w.heap.size) (hb : bs.length + 20 ≤ 140737488355328) :
    Calls Try.prog 21 #[l0, .agg #[.int .i64 (k : Int), .int .i64 a]] w fun e w' => ∃ l, e = .returned l ∧ RG base l0 w l (bs ++ pfm k a) w' := by
  obtain ⟨i0, hi0, hz0, hz1, hz2⟩ := info_parts Try.info5
  have HD := hide (fun w => dOperand_any w (k : Int))
  rw [kdN_eq k] at HD
  generalize isOp (k : Int) = ib at *
  have HOW := hide h
  have eF : Hid (pfm k a = (k : Int) :: opF (kdN k) a) := rfl
  have hwk : IntKind.u8.wrap (k : Int) = (k : Int) := by rw [IntKind.wrap_u8]; omega
  obtain ⟨d, hd⟩ : ∃ d, Hid (d = kdN k) := ⟨_, rfl⟩
  rw [← unhide hd] at HD
  have HPI := hide (fun (l : Value) (w : World) (h : w.ownsRow base 5 1 l (bs ++ [(k : Int)]).length ((bs ++ [(k : Int)]).map By)) (hb2 : base ≤ w.heap.size) => putInt_any base l (bs ++ [(k : Int)]) a w h hb2 (by rw [List.length_append, List.length_singleton]; omega) ha.1 ha.2)
  have HPU := hide (fun (l : Value) (w : World) (h : w.ownsRow base 5 1 l (bs ++ [(k : Int)]).length ((bs ++ [(k : Int)]).map By)) (hb2 : base ≤ w.heap.size) => putUint_any base l (bs ++ [(k : Int)]) (a % 18446744073709551616).toNat w h hb2 (by rw [List.length_append, List.length_singleton]; omega) (by omega))
  have hwu := wrap_u a
  obtain ⟨X, hX⟩ : ∃ X, Hid (X = (a % 18446744073709551616).toNat) := ⟨_, rfl⟩
  rw [← unhide hX] at HPU hwu
  obtain ⟨n, hn⟩ : ∃ n, Hid (bs.length = n) := ⟨_, rfl⟩
  rw [unhide hn] at hb
  have HBA := hide hbase
  clear h ha hbase
  go_enter Try.func21, Try.ntmps21
  go_wp2_with fail
  refine (unhide HD _).mono ?_
  rintro e w1 ⟨rfl, hb1⟩
  obtain ⟨c0, c1⟩ := par_cells hb1
  have hb1' := Bl.par hb1
  have HO := hide (own_below (unhide HOW) hb1')
  have B1 := hide hb1'
  have hpl := World.block_lt_of_cell? _ _ c1
  have HHH : Hid (base ≤ w1.heap.size) := Nat.le_trans (unhide HBA) hb1'.size
  clear hb1 hb1'
  go_wp2_with (first | (at_builtin; refine wpList_append_own_at _ rfl _ _ 32 rfl base 5 i0 (.int .u8 0) 1 1 Try.underlying32 hi0 hz0 hz1 hz2 rfl (by decide) _ _ _ rfl ((unhide HO).alloc _) ⟨w1.heap.size, 0, none⟩ 1 1 [.int .u8 (k : Int)] rfl rfl (cell_one_new _ _ _) (by simp [Value.oneCell']) (by have := unhide hn; unfold maxLen; omega) (by have := unhide hn; omega) (by have := unhide HHH; simp; omega) ?_))
  intro v' w2 hown' hgrow hnil hat
  have R2 : Hid (RG base l0 w1 v' (bs ++ [(k : Int)]) w2) := (RG.start (unhide HO)).step hown' (by rfl) (by simp) hgrow hat
  have d1 : w2.cell? ⟨w.heap.size, 1, none⟩ = some (.int .i64 a) := ((unhide R2).fr.cell (a := ⟨w.heap.size, 1, none⟩) hpl (fun e => absurd ((unhide HOW).lt w.heap.size e).2 (Nat.lt_irrefl _))).trans c1
  have hsz : Hid (base ≤ w2.heap.size) := Nat.le_trans (unhide HHH) (unhide R2).fr.size
  clear hown' hgrow hnil hat c0 c1
  by_cases h1 : d = 1
  · have KP := hide (unhide HPI v' w2 (unhide R2).own (unhide hsz))
    have e : Hid (pfm k a = (k : Int) :: Wm.uform 9 (foldI a).toNat) := by unfold Hid; rw [unhide eF, ← unhide hd, h1]; rfl
    subst h1
    go_wp2_with fail
    refine (unhide KP).mono ?_
    rintro e3 w3 ⟨l3, rfl, hR3⟩
    have R3 := hide hR3
    clear hR3
    go_wp2_with fail
    go_ret
    refine ⟨l3, rfl, ?_⟩
    have q := ((unhide R2).trans (unhide R3)).below (unhide B1)
    rw [unhide e]
    simpa using q
  · have h1' : ((d : Int) == 1) = false := by simp; omega
    by_cases h0 : d = 0
    · have e : Hid (pfm k a = [(k : Int)]) := by unfold Hid; rw [unhide eF, ← unhide hd, h0]; rfl
      subst h0
      go_wp2_with fail
      go_ret
      refine ⟨v', rfl, ?_⟩
      rw [unhide e]
      exact (unhide R2).below (unhide B1)
    · have h0' : ((d : Int) != 0) = true := by simp; omega
      have KP := hide (unhide HPU v' w2 (unhide R2).own (unhide hsz))
      have e : Hid (pfm k a = (k : Int) :: Wm.uform 9 X) := by unfold Hid; rw [unhide eF, ← unhide hd, unhide hX]; unfold opF; rw [if_neg h0, if_neg h1]
      clear h0 h1
      go_wp2_with fail
      refine (unhide KP).mono ?_
      rintro e3 w3 ⟨l3, rfl, hR3⟩
      have R3 := hide hR3
      clear hR3
      go_wp2_with fail
      go_ret
      refine ⟨l3, rfl, ?_⟩
      have q := ((unhide R2).trans (unhide R3)).below (unhide B1)
      rw [unhide e]
      simpa using q


set_option maxRecDepth 100000 in
set_option maxHeartbeats 4000000 in
theorem reads_any (v : Value) (B : List Int) (w : World) (h : Rd w v B) (hB : BOk B) (hN : B.length ≤ 1000) :
    Calls Try.prog 20 #[v] w fun e w' => e = .returned (.bool true) ∧ Below w.heap.size w w' := by
  have H1 := hide (dDecode_any v B w h hB (by omega))
  have H2 := hide (fun w' (q : Below w.heap.size w w') => decode_any v B w' (h.below q) hB (by omega))
  have HNm := hide num_any
  unfold DecPost at H1 H2
  generalize errOf (dec B) = er at *
  generalize lstOf (dec B) = l at *
  clear h hB
  go_enter Try.func20, Try.ntmps20
  go_wp2_with fail
  refine (unhide H1).mono ?_
  rintro e w1 ⟨want, rfl, hG⟩
  have R1 := hide (RtV.of_ro hG.1)
  have B1 := hide hG.2.1
  have K2 := hide (unhide H2 w1 hG.2.1)
  clear hG H1 H2
  go_wp2_with fail
  refine (unhide K2).mono ?_
  rintro e w2 ⟨got, rfl, hG2⟩
  have B2 := hide (Bl.go (unhide B1) (unhide B1).size hG2.2.1)
  have KS := hide (sameC_any (RtV.of_ro hG2.1) ((unhide R1).below hG2.2.1))
  clear hG2 K2
  go_wp2_with fail
  refine (unhide HNm _ _).mono ?_
  rintro e w2' ⟨rfl, rfl⟩
  go_wp2_with fail
  refine (unhide KS).mono ?_
  rintro e w3 ⟨rfl, k, rfl⟩
  go_wp2_with fail
  go_ret
  exact ⟨rfl, Below.drewNB (unhide B2) _⟩

/-- The operands about each end. -/
def edg : List Int := [(-9223372036854775808), (-1), 0, 1, 2, 7, 8, 9, 15, 16, 17, 24, 31, 32, 33, 63, 64, 65, 127, 128, 129, 511, 512, 513, 1999, 2000, 2001, 1099511627776, 9223372036854775807]
def edA (i : Nat) : Int := edg.getD i 0
theorem edA_I64 (i : Nat) (h : i < 29) : I64 (edA i) := by
  have : ∀ i : Fin 29, -9223372036854775808 ≤ edA i.val ∧ edA i.val ≤ 9223372036854775807 := by decide +kernel
  exact this ⟨i, h⟩
set_option maxRecDepth 100000 in
set_option maxHeartbeats 4000000 in
theorem edges_any (w : World) : Calls Try.prog 9 #[] w fun e w' => e = .returned (.slice (some ⟨w.heap.size, 0, none⟩) 29 29) ∧ Below w.heap.size w w' ∧ ∀ i, i < 29 → w'.cell? ⟨w.heap.size, i, none⟩ = some (.int .i64 (edA i)) := by
  go_enter Try.func9, Try.ntmps9
  go_wp2
  go_ret
  refine ⟨rfl, (Below.refl _ w).alloc (Nat.le_refl _) _, fun i hi => ?_⟩
  have hg := heap_alloc_new w (.cells (edg.map (Value.int .i64)).toArray 2)
  show (w.alloc (.cells (edg.map (Value.int .i64)).toArray 2)).cell? _ = _
  simp only [World.cell?, hg]
  have hl : edg.length = 29 := rfl
  rw [List.getElem?_toArray, List.getElem?_map, List.getElem?_eq_getElem (by rw [hl]; exact hi)]
  have e : edA i = edg[i]'(by rw [hl]; exact hi) := by simp [edA, List.getD_eq_getElem?_getD, List.getElem?_eq_getElem (show i < edg.length by rw [hl]; exact hi)]
  rw [e]
  rfl

theorem flat_set (Q : List (Int × Int)) (i : Nat) (p : Int × Int) (hi : i < Q.length) (j : Nat) : (flat (Q.set i p))[j]? = if i * 2 ≤ j ∧ j < i * 2 + 2 then [Value.int .i64 p.1, .int .i64 p.2][j - i * 2]? else (flat Q)[j]? := by
  induction Q generalizing i j with
  | nil => simp at hi
  | cons q r ih =>
    cases i with
    | zero =>
      match j with
      | 0 => simp [flat]
      | 1 => simp [flat]
      | j + 2 => rw [if_neg (by omega)]; simp [flat]
    | succ i =>
      match j with
      | 0 => rw [if_neg (by omega)]; simp [flat]
      | 1 => rw [if_neg (by omega)]; simp [flat]
      | j + 2 =>
        have := ih i (by simpa using hi) j
        have e1 : (flat ((q :: r).set (i + 1) p))[j + 2]? = (flat (r.set i p))[j]? := by simp [flat]
        have e2 : (flat (q :: r))[j + 2]? = (flat r)[j]? := by simp [flat]
        rw [e1, e2, this]
        by_cases c : i * 2 ≤ j ∧ j < i * 2 + 2
        · rw [if_pos c, if_pos (by omega)]
          congr 1
          omega
        · rw [if_neg c, if_neg (by omega)]

def nops (n : Nat) : List (Int × Int) := List.replicate n (0, 0)
theorem nops_succ (n : Nat) : nops (n + 1) = nops n ++ [(0, 0)] := by simp [nops, List.replicate_succ']
theorem nops_len (n : Nat) : (nops n).length = n := by simp [nops]
theorem nops_I64 (n : Nat) : ∀ p ∈ nops n, I64 p.1 ∧ I64 p.2 := by
  intro p hp
  rw [List.eq_of_mem_replicate hp]
  exact ⟨⟨by decide, by decide⟩, ⟨by decide, by decide⟩⟩
theorem nops_ok (n : Nat) : okL (nops n) = true := by
  refine List.all_eq_true.2 (fun p hp => ?_)
  rw [List.eq_of_mem_replicate hp]
  decide +kernel
theorem Ro.one {w : World} {g off N cap : Nat} {Q : List (Int × Int)} (hN : Q.length = N) (h : Ro w 2 (.slice (some ⟨g, off, none⟩) N cap) N (flat Q)) {i : Nat} {x y : Int} (hi : Q[i]? = some (x, y)) (z : Int) :
    Ro (w.setCell ⟨g, off + i * 2, none⟩ (.int .i64 z)) 2 (.slice (some ⟨g, off, none⟩) N cap) N (flat (Q.set i (z, y))) ∧ w.cell? ⟨g, off + i * 2, none⟩ = some (.int .i64 x) ∧ w.frozen? ⟨g, off + i * 2, none⟩ = false ∧ g < w.heap.size ∧ i < N := by
  have hil := (List.getElem?_eq_some_iff.1 hi).1
  obtain ⟨g', off', cap', e, h1, h2, h3, h4⟩ := h.full (by omega)
  cases e
  obtain ⟨f0, f1⟩ := flat_at Q i _ hi
  have hcm : N * 2 ≤ cap * 2 := Nat.mul_le_mul_right _ h1
  refine ⟨(h.sets (v := .slice (some ⟨g, off, none⟩) N cap) rfl (o := off + i * 2) (m := N) (vs := [.int .i64 z]) (ys := flat (Q.set i (z, y))) (by omega) (by simp; omega) h1 (by rw [flat_length, List.length_set, hN]) (fun j hj => ?_) (fun j hj hq => by omega)).1, ?_, h.free rfl _, h3, by omega⟩
  · rw [flat_set Q i (z, y) hil j]
    simp only [List.length_cons, List.length_nil]
    by_cases c : j = i * 2
    · subst c
      rw [if_pos (by omega), if_pos (by omega)]
      simp
    · by_cases c2 : j = i * 2 + 1
      · subst c2
        rw [if_pos (by omega), if_neg (by omega), f1]
        simp
      · rw [if_neg (by omega), if_neg (by omega)]
  · rw [h4 (i * 2) (by omega)]
    exact f0

set_option maxRecDepth 100000 in
set_option maxHeartbeats 4000000 in
theorem long_any (w : World) : Calls Try.prog 22 #[] w fun e w' => e = .returned (.bool true) ∧ Below w.heap.size w w' := by
  go_enter Try.func22, Try.ntmps22
  go_wp2_with fail
  go_loopg [1, 2] 2000 (fun g t1 t2 wr => ∃ (i : Nat) (v : Value), Hid (i + g = 2000) ∧ t1 = v ∧ t2 = .int .i64 (i : Int) ∧ Hid (Gw w (nops i) v wr))
  case atStart => exact ⟨0, _, rfl, rfl, rfl, ⟨by simpa [flat, nops] using Ro.nil _ _, Below.refl _ _, by simp [Value.ownBlock]⟩⟩
  case round =>
    obtain ⟨i, v, hi, rfl, rfl, hG⟩ := hrel
    by_cases hlt : i < 2000
    · have HRo := hide (unhide hG).1
      have i1 : (i : Int) < 2000 := by omega
      have HLN : Hid ((nops i).length ≤ 8796093022207) := by rw [nops_len]; unfold Hid; omega
      go_wp2_with (first | (at_builtin; refine wpList_appW rfl _ _ rfl _ (nops i) rfl ((unhide HRo).keep (fun g hg => Below.heap_alloc _ _ _ ((unhide HRo).lt g hg))) ⟨wr.heap.size, 0, none⟩ 1 0 0 rfl (two_new' _ _ _ _) (unhide HLN) ?_))
      intro v' w' hr hg hat
      have hG2 := (unhide hG).push (p := (0, 0)) (by simpa using hr) hg (by simpa using hat)
      rw [← nops_succ] at hG2
      have HG2 := hide hG2
      clear hr hg hat hG2
      go_wp2_with fail
      go_roundg (gk - 1)
      case measure => have := unhide hi; omega
      case rel => exact ⟨i + 1, v', by have := unhide hi; unfold Hid; omega, rfl, by go_num, HG2⟩
    · have hi2 : i = 2000 := by have := unhide hi; omega
      subst hi2
      obtain ⟨g, off, cap, ev, v1, v2, hgl, _⟩ := (unhide hG).1.full (by rw [nops_len]; omega)
      rw [nops_len] at ev v1
      subst ev
      have hro : Ro wr 2 (.slice (some ⟨g, off, none⟩) 2000 cap) 2000 (flat (nops 2000)) := by
        have q := (unhide hG).1
        rwa [nops_len] at q
      have hgw : w.heap.size ≤ g := (unhide hG).2.2 g rfl
      have HRo := hide hro
      have HGW := hide hgw
      have KE1 := hide (encode_any (RtV.of_ro (l := nops 2000) (by rw [nops_len]; exact hro)) (by rw [nops_len]; omega) (nops_I64 2000))
      unfold EncPost at KE1
      rw [encE_of (by rw [nops_len]; exact Nat.le_refl _) (nops_ok 2000)] at KE1
      have B0 := hide (unhide hG).2.1
      clear hro hgw hgl hG
      go_wp2_with fail
      refine (unhide KE1).mono ?_
      rintro e w1 ⟨x1, rfl, _, hb1⟩
      have hro1 : Ro w1 2 (.slice (some ⟨g, off, none⟩) 2000 cap) 2000 (flat (nops 2000)) := (unhide HRo).keep (fun k hk => hb1.block k ((unhide HRo).lt k hk))
      obtain ⟨r1, c0, cf, hgl, _⟩ := Ro.one (nops_len 2000) hro1 (i := 1999) (x := 0) (y := 0) (by simp [nops]) 99
      have e3 : off + 1999 * 2 = off + 3998 := by omega
      rw [e3] at r1 c0 cf
      clear e3
      obtain ⟨m2, hm2⟩ : ∃ m, Hid (m = (nops 2000).set 1999 (99, 0)) := ⟨_, rfl⟩
      have hml : m2.length = 2000 := by rw [unhide hm2, List.length_set, nops_len]
      have HI2 : Hid (∀ p ∈ m2, I64 p.1 ∧ I64 p.2) := by
        intro p hp
        rw [unhide hm2] at hp
        rcases List.mem_or_eq_of_mem_set hp with q | q
        · exact nops_I64 2000 p q
        · rw [q]; exact ⟨⟨by decide, by decide⟩, ⟨by decide, by decide⟩⟩
      have hbad : Hid (okL m2 = false) := okL_no (i := 1999) (p := (99, 0)) (by rw [unhide hm2, List.getElem?_set_self (by rw [nops_len]; omega)]) (by decide +kernel)
      rw [← unhide hm2] at r1
      have HR2 := hide r1
      have B1 := hide (Bl.go (unhide B0) (unhide B0).size hb1)
      have KE2 := hide (encode_any (RtV.of_ro (l := m2) (by rw [hml]; exact r1)) (by omega) (unhide HI2))
      unfold EncPost at KE2
      rw [show encE m2 = 7 by unfold encE; rw [if_neg (by omega), unhide hbad]; rfl] at KE2
      have HML := hide hml
      clear hro1 r1 hb1 KE1 HRo
      go_wp2_with fail
      refine (unhide KE2).mono ?_
      rintro e w2 ⟨x2, rfl, _, hb2⟩
      have hro2 : Ro w2 2 (.slice (some ⟨g, off, none⟩) 2000 cap) m2.length (flat m2) := by
        rw [unhide HML]
        exact (unhide HR2).keep (fun k hk => hb2.block k ((unhide HR2).lt k hk))
      have A1 : Below w.heap.size w (w1.setCell ⟨g, off + 3998, none⟩ (.int .i64 99)) := (unhide B1).trans (((Fr.refl (fun k => k = g) w1).setCell ⟨g, off + 3998, none⟩ (.inr rfl) _).below (unhide B1).size (fun k hk e => by have := unhide HGW; omega))
      have B2 := hide (Bl.go A1 A1.size hb2)
      have HRo := hide hro2
      have HLN : Hid (m2.length ≤ 8796093022207) := by have := unhide HML; unfold Hid; omega
      clear hro2 hb2 A1 c0 cf hgl KE2
      go_wp2_with (first | (at_builtin; refine wpList_appW rfl _ _ rfl _ m2 rfl ((unhide HRo).keep (fun g hg => Below.heap_alloc _ _ _ ((unhide HRo).lt g hg))) ⟨w2.heap.size, 0, none⟩ 1 0 0 rfl (two_new' _ _ _ _) (unhide HLN) ?_))
      intro v' w3 hr hg hat
      have f3 : Fr (fun k => k = g) w2 w3 := ((Fr.refl (fun k => k = g) w2).alloc _).grown hg (fun k e => .inr (by simp [Value.ownBlock] at e; exact e.symm))
      have B3 := hide ((unhide B2).trans (f3.below (unhide B2).size (fun k hk e => by have := unhide HGW; omega)))
      have hr' : Ro w3 2 v' (m2 ++ [(0, 0)]).length (flat (m2 ++ [(0, 0)])) := by
        rw [List.length_append, unhide HML]
        exact hr
      have KE3 := hide (encode_any (RtV.of_ro hr') (by rw [List.length_append, unhide HML, List.length_singleton]; omega) (by
        intro p hp
        rcases List.mem_append.1 hp with q | q
        · exact unhide HI2 p q
        · simp at q; subst q; exact ⟨⟨by decide, by decide⟩, ⟨by decide, by decide⟩⟩))
      unfold EncPost at KE3
      rw [show encE (m2 ++ [(0, 0)]) = 5 by unfold encE; rw [if_pos (by rw [List.length_append, unhide HML, List.length_singleton]; omega)]] at KE3
      clear hr hr' hg hat f3
      go_wp2_with fail
      refine (unhide KE3).mono ?_
      rintro e w4 ⟨x3, rfl, _, hb4⟩
      have B4 := hide (Bl.go (unhide B3) (unhide B3).size hb4)
      clear hb4
      go_wp2_with fail
      go_ret
      exact ⟨rfl, unhide B4⟩
end Go.Proofs.Ytonnkaphomonpaa
