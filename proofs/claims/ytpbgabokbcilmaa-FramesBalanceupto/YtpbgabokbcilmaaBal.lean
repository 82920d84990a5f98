/-
  FramesBalance: its law.
-/
import Derived.Test.YtpbgabokbcilmaaInts
namespace Go.Proofs.Ytpbgabokbcilmaa
open Go.RowKit
set_option linter.unusedVariables false
set_option linter.unusedSimpArgs false
theorem oneN (l : List Int) : ∀ u ∈ flt enN l, u.oneCell' = true := fun u hu => by
  obtain ⟨x, _, h2⟩ := List.mem_flatMap.1 hu
  simp only [enN, List.mem_cons, List.not_mem_nil, or_false] at h2
  rw [h2]; rfl
theorem Hx.app {P : Program} {w : World} {v x : Value} {n m B : Nat} {xs news : List Value} {size bytes : Nat} (t ty e : TypeId) (z : Value) (ht : P.underlying t = some (.slice e)) (hinf : (P.info? e).map (fun i => (i.zero, i.size, i.bytes)) = some (some z, size, bytes)) (hzs : z.cells.size = size) (hsz : 0 < size)
    (h : Hx B w size v n xs) (hB : B ≤ w.heap.size) (hx : Rx w size x m news) (h1 : ∀ u ∈ news, u.oneCell' = true) (h63 : n + m ≤ maxLen) (hbytes : (n + m) * bytes ≤ 140737488355328) :
    ∃ v' w', (Builtin.append_ #[t, t] ty #[v, x]).run P w = .ok v' w' ∧ Hx B w' size v' (n + m) (xs ++ news) ∧ Fr (fun k => B ≤ k) w w' := by
  rcases h with ⟨rfl, rfl, a, rfl⟩ | ⟨h, hb⟩
  · obtain ⟨v', w', r1, r2, r3, _⟩ := app_new t ty e z ht hinf hzs a hx (by omega) (by simpa using hbytes)
    exact ⟨v', w', r1, by simpa using r2.mono hB, r3.mono (fun _ _ e => e.elim)⟩
  · obtain ⟨v', w', r1, r2, r3, r4⟩ := Ro.appX t ty e z ht hinf hzs hsz h hx h1 h63 hbytes
    refine ⟨v', w', r1, .inr ⟨r2, fun k hk => ?_⟩, (Fr.refl _ w).grown r3 (fun k e => .inr (hb k e))⟩
    rcases r4 with q | q
    · exact hb k (q ▸ hk)
    · rw [q] at hk; cases hk; exact hB
/-- The stack in a law: it lies from Z on, all below is as it was. -/
structure BS (w : World) (Z p : Nat) (v : Value) (n : Nat) (xs : List Int) (wi : World) : Prop where
  sk : Sk wi p 1 v n (flt enN xs)
  be : Below Z w wi
  zs : Z ≤ wi.heap.size
  p0 : Z ≤ p
  vb : ∀ k, v.ownBlock = some k → Z ≤ k
theorem BS.step {w wi w' : World} {Z p n m : Nat} {v v' : Value} {xs ys : List Int} (h : BS w Z p v n xs wi) (hk : Sk w' p 1 v' m (flt enN ys)) (hs : StS p wi v w' v') : BS w Z p v' m ys w' :=
  ⟨hk, h.be.trans (hs.fr.below h.zs (fun k hk e => by
    rcases e with e | e
    · have := h.p0; omega
    · have := h.vb k e; omega)), Nat.le_trans h.zs hs.fr.size, h.p0, fun k e => by
    rcases hs.new k e with q | q
    · exact h.vb k q
    · exact Nat.le_trans h.zs q⟩
theorem BS.fr {S : Nat → Prop} {w wi w' : World} {Z p n : Nat} {v : Value} {xs : List Int} (h : BS w Z p v n xs wi) (f : Fr S wi w') (hS : ∀ k, S k → wi.heap.size ≤ k ∨ (Z ≤ k ∧ k ≠ p ∧ v.ownBlock ≠ some k)) : BS w Z p v n xs w' := by
  have hlt := h.sk.lt
  have hz := h.zs
  refine ⟨h.sk.fr f (fun e => ?_) (fun k e q => ?_), h.be.trans (f.below h.zs (fun k hk e => ?_)), Nat.le_trans h.zs f.size, h.p0, h.vb⟩
  · rcases hS p e with q | q
    · omega
    · exact q.2.1 rfl
  · rcases hS k q with r | r
    · have := h.sk.row.lt k e; omega
    · exact r.2.2 e
  · rcases hS k e with q | q <;> omega
set_option maxRecDepth 100000 in
set_option maxHeartbeats 6400000 in
theorem balanceLaw {w : World} {bv lv : Value} {B L : List Int} (nn : Int) (hb : Rn w bv B) (hl : Rn w lv L) (hB : B.length ≤ 1048576) (hL : L.length ≤ 1048576) :
    Calls Try.prog 4 #[bv, lv, .int .i64 nn] w fun e w' => e = .returned (.bool true) ∧ Below w.heap.size w w' := by
  obtain ⟨NB, hNB⟩ : ∃ NB, Hid (B.length = NB) := ⟨_, hide rfl⟩
  obtain ⟨NL, hNL⟩ : ∃ NL, Hid (L.length = NL) := ⟨_, hide rfl⟩
  obtain ⟨ba, bc, ebv, hbc, hbm⟩ := hb.shape
  obtain ⟨la, lc, elv, hlc, hlm⟩ := hl.shape
  unfold maxLen at hbm hlm
  have hxb : Rx w 1 bv NB (flt enN B) := by rw [← unhide hNB]; exact hb
  have hxl : Rx w 1 lv NL (flt enN L) := by rw [← unhide hNL]; exact hl
  have HLc := hide (fun i x (hx : L[i]? = some x) => hl.at hx)
  rw [unhide hNB] at hB ebv hbc
  rw [unhide hNL] at hL elv hlc HLc
  have HB := hide hb
  have HL := hide hl
  have HXL := hide hxl
  obtain ⟨Z, hZ⟩ : ∃ Z, Hid (w.heap.size = Z) := ⟨_, hide rfl⟩
  have H1 := hide (new_any hxb (oneN B) (by omega))
  rw [unhide hZ] at H1 ⊢
  subst ebv elv
  clear hb hl hxb hxl
  have e26 : ∀ (a : Addr) (W : World), (binOp .eql 26 (.pointer (some a)) (.pointer none)).run Try.prog W = .ok (.bool false) W := fun a W => by kernel_rfl
  go_enter Try.func4, Try.ntmps4
  go_wp2_with fail
  refine (unhide H1).mono ?_
  rintro e w1 ⟨rfl, v1, hs1, hb1, hv1⟩
  have HS1 : Hid (BS w Z Z v1 NB B w1) := ⟨hs1, hb1, by have := hb1.size; have := unhide hZ; omega, Nat.le_refl _, fun k e => Nat.le_of_lt (hv1 k e)⟩
  clear hs1 hb1 hv1 H1
  have H2 := hide (items_any (unhide HS1).sk (by omega))
  go_wp2_with fail
  refine (unhide H2).mono ?_
  rintro e w2 ⟨u2, rfl, hx2, hf2⟩
  have HS2 : Hid (BS w Z Z v1 NB B w2) := (unhide HS1).fr hf2 (fun k e => e.elim)
  have hxl2 : Rx w2 1 (.slice la NL lc) NL (flt enN L) := Rx.below (unhide HXL) ((unhide HS2).be) (by rw [unhide hZ]; exact Nat.le_refl _)
  have H3 := hide (push_any (unhide HS2).sk hxl2 (oneN L) (by omega))
  have HX2 := hide hx2
  have HLT1 : Hid (Z < w1.heap.size ∧ ∀ k, v1.ownBlock = some k → k < w1.heap.size) := ⟨(unhide HS1).sk.lt, (unhide HS1).sk.row.lt⟩
  clear hx2 hf2 hxl2 H2 HS1
  go_wp2_with fail
  refine (unhide H3).mono ?_
  rintro e w3 ⟨rfl, v3, hs3, hst3⟩
  rw [← flt_append] at hs3
  have HS3 : Hid (BS w Z Z v3 (NB + NL) (B ++ L) w3) := (unhide HS2).step hs3 hst3
  have hx3 : Hx w1.heap.size w3 1 u2 NB (flt enN B) := (unhide HX2).fr hst3.fr (fun k hk _ e => by
    obtain ⟨q1, q2⟩ := unhide HLT1
    rcases e with e | e
    · omega
    · have := q2 k e; omega)
  have hr3 : Rn w3 u2 B := by have := hx3.rx; rw [← unhide hNB] at this; exact this
  have H4 := hide (sameN_any hr3 ((unhide HB).below (unhide HS3).be (by rw [unhide hZ]; exact Nat.le_refl _)))
  clear hs3 hst3 hx3 hr3 H3 HS2 HX2 HLT1
  go_wp2_with fail
  refine (unhide H4).mono ?_
  rintro e w4 ⟨rfl, d4, hd4⟩
  have HS4 : Hid (BS w Z Z v3 (NB + NL) (B ++ L) w4) := (unhide HS3).fr (S := fun _ => False) (by rw [hd4]; exact Fr.drewN d4) (fun k e => e.elim)
  clear hd4 H4 HS3
  have H5 := hide (len_any (unhide HS4).sk)
  rw [Int.natCast_add] at H5
  go_wp2_with fail
  refine (unhide H5).mono ?_
  rintro e w5 ⟨rfl, ew5⟩
  obtain rfl := ew5.symm
  have HP := hide (pick_any w4 nn ((NL : Int) + 1) (by omega) (by omega))
  obtain ⟨K, hK, hKL⟩ : ∃ K : Nat, Hid (pck nn ((NL : Int) + 1) = (K : Int)) ∧ K ≤ NL := by
    obtain ⟨q1, q2⟩ := pck_lt nn (show 1 ≤ (NL : Int) + 1 by omega)
    exact ⟨(pck nn ((NL : Int) + 1)).toNat, by unfold Hid; omega, by omega⟩
  rw [unhide hK] at HP
  clear H5
  go_wp2_with fail
  refine (unhide HP).mono ?_
  rintro e w6 ⟨rfl, ew6⟩
  obtain rfl := ew6.symm
  have H7 := hide (pop_any (unhide HS4).sk (k := K) (by omega) (by omega))
  clear HP
  go_wp2_with fail
  refine (unhide H7).mono ?_
  rintro e w7 ⟨u7, v7, rfl, hx7, hs7, hst7, hob7⟩
  rw [Nat.mul_one] at hx7 hs7
  have e7a : (flt enN (B ++ L)).drop (NB + NL - K) = flt enN (L.drop (NL - K)) := by
    have := flt_drop zN (B ++ L) (NB + NL - K)
    rw [Nat.mul_one] at this
    rw [this, List.drop_append, List.drop_eq_nil_of_le (by rw [unhide hNB]; omega), List.nil_append, unhide hNB, show NB + NL - K - NB = NL - K by omega]
  have e7b : (flt enN (B ++ L)).take (NB + NL - K) = flt enN (B ++ L.take (NL - K)) := by
    have := flt_take zN (B ++ L) (NB + NL - K)
    rw [Nat.mul_one] at this
    rw [this, List.take_append, List.take_of_length_le (by rw [unhide hNB]; omega), unhide hNB, show NB + NL - K - NB = NL - K by omega]
  rw [e7a] at hx7
  rw [e7b] at hs7
  have HF7 := hide hst7.fr.size
  have HS7 : Hid (BS w Z Z v7 (NB + NL - K) (B ++ L.take (NL - K)) w7) := (unhide HS4).step hs7 hst7
  have HX7 := hide hx7
  have HZ6 := hide (unhide HS4).zs
  have ekl : ((NL : Int) - (K : Int)) = ((NL - K : Nat) : Int) := by omega
  have H8 := hide (pop_any (unhide HS7).sk (k := NL - K) (by omega) (by omega))
  rw [← ekl] at H8
  have HO7 := hide hob7
  clear hx7 hs7 hst7 hob7 e7a e7b H7 ekl
  go_wp2_with fail
  refine (unhide H8).mono ?_
  rintro e w8 ⟨u8, v8, rfl, hx8, hs8, hst8, hob8⟩
  rw [Nat.mul_one, show NB + NL - K - (NL - K) = NB by omega] at hx8 hs8
  have e8a : (flt enN (B ++ L.take (NL - K))).drop NB = flt enN (L.take (NL - K)) := by
    have := flt_drop zN (B ++ L.take (NL - K)) NB
    rw [Nat.mul_one] at this
    rw [this, List.drop_append, List.drop_eq_nil_of_le (by rw [unhide hNB]; omega), List.nil_append, unhide hNB, Nat.sub_self, List.drop_zero]
  have e8b : (flt enN (B ++ L.take (NL - K))).take NB = flt enN B := by
    have := flt_take zN (B ++ L.take (NL - K)) NB
    rw [Nat.mul_one] at this
    rw [this, List.take_append, List.take_of_length_le (by rw [unhide hNB]; omega), unhide hNB, Nat.sub_self, List.take_zero, List.append_nil]
  rw [e8a] at hx8
  rw [e8b] at hs8
  have HS8 : Hid (BS w Z Z v8 NB B w8) := (unhide HS7).step hs8 hst8
  have hx7a : Hx w4.heap.size w8 1 u7 K (flt enN (L.drop (NL - K))) := (unhide HX7).fr hst8.fr (fun k hk hk2 e => by
    rcases e with e | e
    · have := (unhide HS4).sk.lt; omega
    · rw [unhide HO7] at e
      have := (unhide HS4).sk.row.lt k e; omega)
  obtain ⟨v9, w9, hrun9, hx9, hf9⟩ := Hx.app (P := Try.prog) 23 23 2 _ Try.underlying23 infE rfl (by decide) hx8 hst8.fr.size hx7a.rx (oneN _) (by unfold maxLen; omega) (by omega)
  have HRUN9 := hide hrun9
  have HS9 : Hid (BS w Z Z v8 NB B w9) := (unhide HS8).fr hf9 (fun k hk => .inr ⟨Nat.le_trans (unhide HS7).zs hk, fun e => by
    have := (unhide HS7).sk.lt; omega, fun e => by
    rw [hob8, unhide HO7] at e
    have := (unhide HS4).sk.row.lt k e
    have := (unhide HF7)
    omega⟩)
  have hr9 : Rn w9 v9 L := by
    have := hx9.rx
    rw [← flt_append, List.take_append_drop, show NL - K + K = NL by omega, ← unhide hNL] at this
    exact this
  have H10 := hide (sameN_any hr9 ((unhide HL).below (unhide HS9).be (by rw [unhide hZ]; exact Nat.le_refl _)))
  obtain ⟨v9a, v9c, ev9⟩ : ∃ a c, v9 = .slice a L.length c := by obtain ⟨a, c, e, _⟩ := hr9.shape; exact ⟨a, c, e⟩
  rw [unhide hNL] at ev9
  subst ev9
  obtain ⟨u8a, u8c, eu8⟩ : ∃ a c, u8 = .slice a (NL - K) c := by obtain ⟨_, a, c, e, _⟩ := hx8.rx; exact ⟨a, c, e⟩
  obtain ⟨u7a, u7c, eu7⟩ : ∃ a c, u7 = .slice a K c := by obtain ⟨_, a, c, e, _⟩ := hx7a.rx; exact ⟨a, c, e⟩
  clear hx8 hs8 hst8 hob8 e8a e8b H8 hx7a hrun9 hx9 hf9 hr9 HS8 HS7 HX7
  subst eu8 eu7
  go_wp2_with (first | (at_builtin; refine wpList_appRunG (by rfl) _ _ rfl rfl rfl (unhide HRUN9) ?_))
  refine (unhide H10).mono ?_
  rintro e w10 ⟨rfl, d10, hd10⟩
  have HS10 : Hid (BS w Z Z v8 NB B w10) := (unhide HS9).fr (S := fun _ => False) (by rw [hd10]; exact Fr.drewN d10) (fun k e => e.elim)
  clear hd10 H10 HS9 HRUN9
  have H11 := hide (items_any (unhide HS10).sk (by omega))
  go_wp2_with fail
  refine (unhide H11).mono ?_
  rintro e w11 ⟨u11, rfl, hx11, hf11⟩
  have HS11 : Hid (BS w Z Z v8 NB B w11) := (unhide HS10).fr hf11 (fun k e => e.elim)
  have hr11 : Rn w11 u11 B := by have := hx11.rx; rw [← unhide hNB] at this; exact this
  have H12 := hide (sameN_any hr11 ((unhide HB).below (unhide HS11).be (by rw [unhide hZ]; exact Nat.le_refl _)))
  clear hx11 hf11 hr11 H11 HS10
  go_wp2_with fail
  refine (unhide H12).mono ?_
  rintro e w12 ⟨rfl, d12, hd12⟩
  have HS12 : Hid (BS w Z Z v8 NB B w12) := (unhide HS11).fr (S := fun _ => False) (by rw [hd12]; exact Fr.drewN d12) (fun k e => e.elim)
  clear hd12 H12 HS11
  have hxl12 : Rx w12 1 (.slice la NL lc) NL (flt enN L) := Rx.below (unhide HXL) ((unhide HS12).be) (by rw [unhide hZ]; exact Nat.le_refl _)
  have H13 := hide (push_any (unhide HS12).sk hxl12 (oneN L) (by omega))
  clear hxl12
  go_wp2_with fail
  refine (unhide H13).mono ?_
  rintro e w13 ⟨rfl, v13, hs13, hst13⟩
  rw [← flt_append] at hs13
  have HS13 : Hid (BS w Z Z v13 (NB + NL) (B ++ L) w13) := (unhide HS12).step hs13 hst13
  clear hs13 hst13 H13 HS12 HS4 HZ6 HO7 HF7
  by_cases h0 : 0 < NL
  · have z0 : (0 : Int) < (NL : Int) := by omega
    obtain ⟨x, hx⟩ : ∃ x, L[NL - 1]? = some x := ⟨_, List.getElem?_eq_getElem (by rw [unhide hNL]; omega)⟩
    obtain ⟨y, hy⟩ : ∃ y, L[0]? = some y := ⟨_, List.getElem?_eq_getElem (by rw [unhide hNL]; omega)⟩
    have hat : ∀ j z, L[j]? = some z → (flt enN (B ++ L))[NB + j]? = some (.int .i64 z) := fun j z hz => by
      have q : (B ++ L)[NB + j]? = some z := by rw [List.getElem?_append_right (by rw [unhide hNB]; omega), unhide hNB, Nat.add_sub_cancel_left]; exact hz
      have := flt_at zN q 0 (by omega)
      rw [Nat.mul_one, Nat.add_zero] at this
      rw [this]; rfl
    have HT1 := hide (top_any (unhide HS13).sk (k := 0) (by omega) (u := .int .i64 x) (by rw [show NB + NL - 1 - 0 = NB + (NL - 1) by omega]; exact hat _ _ hx))
    have enl : ((NL : Int) - 1) = ((NL - 1 : Nat) : Int) := by omega
    have HT2 := hide (fun W (h : BS w Z Z v13 (NB + NL) (B ++ L) W) => top_any h.sk (k := NL - 1) (by omega) (u := .int .i64 y) (by rw [show NB + NL - 1 - (NL - 1) = NB + 0 by omega]; exact hat _ _ hy))
    rw [← enl] at HT2
    obtain ⟨lb, lo, lcc, el, hlb, cx⟩ := unhide HLc _ _ hx
    cases el
    obtain ⟨lb2, lo2, lcc2, el2, _, cy⟩ := unhide HLc _ _ hy
    cases el2
    clear hat enl hx hy
    go_wp2_with fail
    refine (unhide HT1).mono ?_
    rintro e w14 ⟨rfl, d14, hd14⟩
    have HS14 : Hid (BS w Z Z v13 (NB + NL) (B ++ L) w14) := (unhide HS13).fr (S := fun _ => False) (by rw [hd14]; exact Fr.drewN d14) (fun k e => e.elim)
    clear hd14 HT1 HS13
    go_wp2_with fail
    refine (unhide HT2 _ (unhide HS14)).mono ?_
    rintro e w15 ⟨rfl, d15, hd15⟩
    have HS15 : Hid (BS w Z Z v13 (NB + NL) (B ++ L) w15) := (unhide HS14).fr (S := fun _ => False) (by rw [hd15]; exact Fr.drewN d15) (fun k e => e.elim)
    clear hd15 HT2 HS14
    have k0 := ((unhide HS15).be.cell (p := ⟨lb, lo + (NL - 1), none⟩) (by rw [← unhide hZ]; exact hlb)).trans cx
    have k1 := ((unhide HS15).be.cell (p := ⟨lb, lo + 0, none⟩) (by rw [← unhide hZ]; exact hlb)).trans cy
    have hlb2 : lb < w15.heap.size := Nat.lt_of_lt_of_le (by rw [← unhide hZ]; exact hlb) (unhide HS15).zs
    rw [Nat.add_zero] at k1
    obtain ⟨M, hM⟩ : ∃ M, Hid (NL - 1 = M) := ⟨_, hide rfl⟩
    have hM' := unhide hM
    have hw1 : IntKind.i64.wrap ((NL : Int) - 1) = (M : Int) := by rw [show (M : Int) = (NL : Int) - 1 by omega]; go_arith
    have j0 : (0 : Int) ≤ (M : Int) := by omega
    have j1 : (M : Int) < (NL : Int) := by omega
    rw [hM'] at k0
    clear cx cy hlb hM'
    go_wp2_with fail
    have N1 := hide (pop_no (unhide HS15).sk ((NB : Int) + (NL : Int) + 1) (.inr (by omega)))
    refine (unhide N1).mono ?_
    rintro e w16 ⟨rfl, ew16⟩
    obtain rfl := ew16.symm
    have N2 := hide (pop_no (unhide HS15).sk (-1) (.inl (by omega)))
    clear N1
    go_wp2_with fail
    refine (unhide N2).mono ?_
    rintro e w17 ⟨rfl, ew17⟩
    obtain rfl := ew17.symm
    have N3 := hide (top_no (unhide HS15).sk ((NB : Int) + (NL : Int)) (.inr (by omega)))
    clear N2
    go_wp2_with fail
    refine (unhide N3).mono ?_
    rintro e w18 ⟨rfl, ew18⟩
    obtain rfl := ew18.symm
    have N4 := hide (cut_no (unhide HS15).sk (-1) (.inl (by omega)))
    clear N3
    go_wp2_with fail
    refine (unhide N4).mono ?_
    rintro e w19 ⟨rfl, ew19⟩
    obtain rfl := ew19.symm
    have N5 := hide (cut_no (unhide HS15).sk ((NB : Int) + (NL : Int) + 1) (.inr (by omega)))
    clear N4
    go_wp2_with fail
    refine (unhide N5).mono ?_
    rintro e w20 ⟨rfl, ew20⟩
    obtain rfl := ew20.symm
    have N6 := hide (cut_any (unhide HS15).sk (k := NB) (by omega))
    clear N5
    go_wp2_with fail
    refine (unhide N6).mono ?_
    rintro e w21 ⟨rfl, v21, hs21, hst21, _⟩
    have e21 : (flt enN (B ++ L)).take (NB * 1) = flt enN B := by
      rw [flt_take zN, List.take_append, List.take_of_length_le (by rw [unhide hNB]; omega), unhide hNB, Nat.sub_self, List.take_zero, List.append_nil]
    rw [e21] at hs21
    have HS21 : Hid (BS w Z Z v21 NB B w21) := (unhide HS15).step hs21 hst21
    have H22 := hide (items_any (unhide HS21).sk (by omega))
    clear hs21 hst21 e21 N6
    go_wp2_with fail
    refine (unhide H22).mono ?_
    rintro e w22 ⟨u22, rfl, hx22, hf22⟩
    have HS22 : Hid (BS w Z Z v21 NB B w22) := (unhide HS21).fr hf22 (fun k e => e.elim)
    have hr22 : Rn w22 u22 B := by have := hx22.rx; rw [← unhide hNB] at this; exact this
    have H23 := hide (sameN_any hr22 ((unhide HB).below (unhide HS22).be (by rw [unhide hZ]; exact Nat.le_refl _)))
    clear hx22 hf22 hr22 H22
    go_wp2_with fail
    refine (unhide H23).mono ?_
    rintro e w23 ⟨rfl, d23, hd23⟩
    have HB23 : Hid (Below Z w w23) := by
      have := (unhide HS22).fr (S := fun _ => False) (w' := w23) (by rw [hd23]; exact Fr.drewN d23) (fun k e => e.elim)
      exact this.be
    clear hd23 H23
    go_wp2_with fail
    go_ret
    exact ⟨rfl, unhide HB23⟩
  · have z0 : ¬ ((0 : Int) < (NL : Int)) := by omega
    go_wp2_with fail
    have N1 := hide (pop_no (unhide HS13).sk ((NB : Int) + (NL : Int) + 1) (.inr (by omega)))
    refine (unhide N1).mono ?_
    rintro e w16 ⟨rfl, ew16⟩
    obtain rfl := ew16.symm
    have N2 := hide (pop_no (unhide HS13).sk (-1) (.inl (by omega)))
    clear N1
    go_wp2_with fail
    refine (unhide N2).mono ?_
    rintro e w17 ⟨rfl, ew17⟩
    obtain rfl := ew17.symm
    have N3 := hide (top_no (unhide HS13).sk ((NB : Int) + (NL : Int)) (.inr (by omega)))
    clear N2
    go_wp2_with fail
    refine (unhide N3).mono ?_
    rintro e w18 ⟨rfl, ew18⟩
    obtain rfl := ew18.symm
    have N4 := hide (cut_no (unhide HS13).sk (-1) (.inl (by omega)))
    clear N3
    go_wp2_with fail
    refine (unhide N4).mono ?_
    rintro e w19 ⟨rfl, ew19⟩
    obtain rfl := ew19.symm
    have N5 := hide (cut_no (unhide HS13).sk ((NB : Int) + (NL : Int) + 1) (.inr (by omega)))
    clear N4
    go_wp2_with fail
    refine (unhide N5).mono ?_
    rintro e w20 ⟨rfl, ew20⟩
    obtain rfl := ew20.symm
    have N6 := hide (cut_any (unhide HS13).sk (k := NB) (by omega))
    clear N5
    go_wp2_with fail
    refine (unhide N6).mono ?_
    rintro e w21 ⟨rfl, v21, hs21, hst21, _⟩
    have e21 : (flt enN (B ++ L)).take (NB * 1) = flt enN B := by
      rw [flt_take zN, List.take_append, List.take_of_length_le (by rw [unhide hNB]; omega), unhide hNB, Nat.sub_self, List.take_zero, List.append_nil]
    rw [e21] at hs21
    have HS21 : Hid (BS w Z Z v21 NB B w21) := (unhide HS13).step hs21 hst21
    have H22 := hide (items_any (unhide HS21).sk (by omega))
    clear hs21 hst21 e21 N6
    go_wp2_with fail
    refine (unhide H22).mono ?_
    rintro e w22 ⟨u22, rfl, hx22, hf22⟩
    have HS22 : Hid (BS w Z Z v21 NB B w22) := (unhide HS21).fr hf22 (fun k e => e.elim)
    have hr22 : Rn w22 u22 B := by have := hx22.rx; rw [← unhide hNB] at this; exact this
    have H23 := hide (sameN_any hr22 ((unhide HB).below (unhide HS22).be (by rw [unhide hZ]; exact Nat.le_refl _)))
    clear hx22 hf22 hr22 H22
    go_wp2_with fail
    refine (unhide H23).mono ?_
    rintro e w23 ⟨rfl, d23, hd23⟩
    have HB23 : Hid (Below Z w w23) := by
      have := (unhide HS22).fr (S := fun _ => False) (w' := w23) (by rw [hd23]; exact Fr.drewN d23) (fun k e => e.elim)
      exact this.be
    clear hd23 H23
    go_wp2_with fail
    go_ret
    exact ⟨rfl, unhide HB23⟩
end Go.Proofs.Ytpbgabokbcilmaa
