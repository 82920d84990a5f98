/-
  Encode.
-/
import Derived.Test.YtclcebdcdbcpjaaGreatE3
import Derived.Test.YtclcebdcdbcpjaaGreatPKp
import Derived.Lib.SlBytesConst
namespace Go.Proofs.YtclcebdcdbcpjaaGreat
open Go.RowKit
set_option linter.unusedVariables false
set_option linter.unusedSimpArgs false
set_option maxRecDepth 100000 in
set_option maxHeartbeats 400000 in
theorem rawW_any (p : Nat) (v : Value) (bs : List Int) (a : Addr) (cap : Nat) (ys : List Int) (w : World) (h : Wtr w p v bs) (hb : bs.length + ys.length ≤ 140737488355328)
    (hy : ∀ j u, (ys.map By)[j]? = some u → w.cell? (a.add j) = some u) :
    Calls Tryz.prog 26 #[.pointer (some ⟨p, 0, none⟩), .slice (some a) ys.length cap] w fun e w' => e = .returned (.tuple #[]) ∧ ∃ v', Wtr w' p v' (bs ++ ys) ∧ WStep p w v w' v' := by
  obtain ⟨i0, hi0, hz0, hz1, hz2⟩ := info_parts Tryz.info5
  have hc := h.cell
  have hf := h.frz
  have hp := h.lt
  obtain ⟨m, hm⟩ : ∃ m, Hid (ys.length = m) := ⟨_, rfl⟩
  obtain ⟨n, hn⟩ : ∃ n, Hid (bs.length = n) := ⟨_, rfl⟩
  rw [unhide hm] at hb ⊢
  rw [unhide hn] at hb
  have hown := h.own
  rw [unhide hn] at hown
  have HO := hide hown
  have HY := hide hy
  have HW := hide h
  have hap := hide h.apart
  clear hown hy h
  have hl : Hid ((ys.map By).length = m * 1) := by rw [Hid, List.length_map, unhide hm]; omega
  have h1 : Hid (∀ u ∈ ys.map By, u.oneCell' = true) := by simp [Hid, By, Value.oneCell']
  go_enter Tryz.func26, Tryz.ntmps26
  go_wp2_with (at_builtin; refine wpList_append_own_at _ rfl (.tmp 8) (.tmp 9) 22 rfl 0 5 i0 (.int .u8 0) 1 1 Tryz.underlying22 hi0 hz0 hz1 hz2 rfl (by omega) v n _ rfl (unhide HO) a m cap _ rfl (unhide hl) (unhide HY) (unhide h1) (by unfold maxLen; omega) (by omega) (by simp) ?_)
  intro v' w2 ho hg _ hat
  obtain ⟨a', l', c', rfl⟩ := own_shape ho
  have k0 : w2.cell? ⟨p, 0, none⟩ = some v := by rw [hg.cell_far _ hp (Ne.symm (unhide hap))]; exact hc
  have e0 : w2.frozen? ⟨p, 0, none⟩ = false := by rw [hg.frozen_far _ hp (Ne.symm (unhide hap))]; exact hf
  have HH : Hid _ := (unhide HW).appended_at (more := ys) (by rw [unhide hn, unhide hm]; exact ho) hg hat
  clear ho hg hat
  go_wp2
  go_end0
  exact ⟨rfl, _, (unhide HH).1, (unhide HH).2⟩

def encL (l : List Sp) : List Int := Wm.uform 9 l.length ++ l.flatMap encS
def sgn4 : List Int := [80, 84, 70, 1]
/-- The form of a profile. -/
def encP (f : List (List Sp)) : List Int := sgn4 ++ Wm.uform 9 f.length ++ f.flatMap encL
theorem encS_all (l : List Sp) : (l.flatMap encS).length ≤ 41 * l.length := by
  induction l with
  | nil => simp
  | cons x r ih => have := encS_len x; simp only [List.flatMap_cons, List.length_append, List.length_cons]; omega
theorem encL_len (l : List Sp) (h : l.length ≤ 2000) : (encL l).length ≤ 82010 := by
  have h1 := encS_all l
  have h2 := uform_le l.length
  unfold encL
  rw [List.length_append]
  omega
theorem encL_all (f : List (List Sp)) (h : ∀ l ∈ f, l.length ≤ 2000) : (f.flatMap encL).length ≤ 82010 * f.length := by
  induction f with
  | nil => simp
  | cons x r ih =>
    have h1 := encL_len x (h x (by simp))
    have h2 := ih (fun l hl => h l (by simp [hl]))
    simp only [List.flatMap_cons, List.length_append, List.length_cons]
    omega
theorem WP.on {p : Nat} {w wr w' : World} {v : Value} {bs : List Int} (h : WP p w v bs wr) (k : Below wr.heap.size wr w') : WP p w v bs w' := by
  obtain ⟨v1, h1, h2⟩ := h
  exact ⟨v1, h1.keep (S := fun _ => False) (Fr.of_below k) (fun e => e) (fun _ _ e => e), h2.trans ⟨Fr.of_below k, .inl rfl⟩⟩
theorem WP.bel {p : Nat} {w wr : World} {bs : List Int} (h : WP p w (.slice none 0 0) bs wr) (hp : p < w.heap.size) : Below p w wr := by
  obtain ⟨v1, h1, h2⟩ := h
  exact h2.fr.below (by omega) (fun k hk e => by
    rcases e with e | e
    · omega
    · simp [Value.ownBlock] at e)
/-- What Encode answers. -/
def EnQ (w : World) (f : List (List Sp)) (e : Ending) (w' : World) : Prop :=
  (ckE f ≠ 0 ∧ e = .returned (.tuple #[.slice none 0 0, .int .i64 (ckE f)]) ∧ Below w.heap.size w w') ∨
  (ckE f = 0 ∧ ∃ v', e = .returned (.tuple #[v', .int .i64 0]) ∧ w'.ownsRow w.heap.size 5 1 v' (encP f).length ((encP f).map By) ∧ Below w.heap.size w w')
theorem ck0 {f : List (List Sp)} (h : ckE f = 0) : f.length ≤ 128 ∧ (∀ l ∈ f, l.length ≤ 2000) ∧ ∀ l ∈ f, ∀ s ∈ l, tkB s = true := by
  by_cases h1 : LongF f
  · rw [ckE_long h1] at h; omega
  · by_cases h2 : BadF f
    · rw [ckE_bad h1 h2] at h; omega
    · refine ⟨?_, fun l hl => ?_, fun l hl s hs => ?_⟩
      · exact Nat.le_of_not_lt (fun q => h1 (.inl q))
      · exact Nat.le_of_not_lt (fun q => h1 (.inr ⟨l, hl, q⟩))
      · cases e : tkB s with
        | true => rfl
        | false => exact absurd ⟨l, hl, s, hs, e⟩ h2
theorem ckE_ne {f : List (List Sp)} (h : ckE f ≠ 0) : ckE f = 5 ∨ ckE f = 1 := by
  by_cases h1 : LongF f
  · exact .inl (ckE_long h1)
  · by_cases h2 : BadF f
    · exact .inr (ckE_bad h1 h2)
    · exact absurd (ckE_ok h1 h2) h
set_option maxRecDepth 100000 in
set_option maxHeartbeats 6400000 in
theorem encode_any {w : World} {av : Value} {f : List (List Sp)} (ha : PfV w av f) (hK : OkF f) : Calls Tryz.prog 8 #[.agg #[av]] w (EnQ w f) := by
  obtain ⟨a, acap, rfl, ha1, ha2⟩ := ha.shape
  have HA := hide (fun i l (hl : f[i]? = some l) => ha.row hl)
  have HK := hide hK
  have HB0 := hide (box1 w (.slice a f.length acap) 25)
  have HCK := hide (check_any (ha.below (box1 w (.slice a f.length acap) 25) (Nat.le_refl _)) hK)
  have HBX := hide (heap_alloc_new w (.cells #[.slice a f.length acap] 25))
  unfold maxLen at ha2
  clear ha hK
  obtain ⟨L, hL⟩ : ∃ L, Hid (f.length = L) := ⟨_, hide rfl⟩
  obtain ⟨E, hE⟩ : ∃ E, Hid (ckE f = E) := ⟨_, hide rfl⟩
  rw [unhide hE] at HCK
  rw [unhide hL] at ha1 HB0 HCK HBX ⊢
  by_cases h0 : E = 0
  · subst h0
    obtain ⟨l1, l2, l3⟩ := ck0 (unhide hE)
    rw [unhide hL] at l1
    have HL2 := hide l2
    have HL3 := hide l3
    clear l2 l3
    go_enter Tryz.func8, Tryz.ntmps8
    go_wp2_with fail
    refine (unhide HCK).mono ?_
    rintro e w1 ⟨rfl, b1⟩
    have HB1 := hide (bl_past (unhide HB0) b1)
    have hbx := (b1.block _ (Array.getElem?_eq_some_iff.1 (unhide HBX)).1).trans (unhide HBX)
    have HBX1 := hide hbx
    have hpw : w.heap.size < w1.heap.size := (Array.getElem?_eq_some_iff.1 hbx).1
    have HNW := hide (newWriter_any w1 w1.heap.size rfl)
    clear HCK HBX b1 hbx
    go_wp2_with fail
    refine (unhide HNW).mono ?_
    rintro e w2 ⟨rfl, W2, b2, hp2⟩
    obtain ⟨p, hp⟩ : ∃ p, Hid (w1.heap.size = p) := ⟨_, hide rfl⟩
    have HW2 := hide W2
    have HB2 : Hid (Below w.heap.size w w2) := (unhide HB1).trans (b2.mono (by omega))
    have hbx2 : w2.heap[w.heap.size]? = _ := (b2.block _ hpw).trans (unhide HBX1)
    have HBX2 := hide hbx2
    rw [unhide hp] at HW2 hp2 hpw ⊢
    have HRAW : Hid (Calls Tryz.prog 26 #[.pointer (some ⟨p, 0, none⟩), .slice (some ⟨w2.heap.size, 0, none⟩) 4 4] (w2.alloc (.cells #[.int .u8 80, .int .u8 84, .int .u8 70, .int .u8 1] 5 (4, 5))) fun e w' => e = .returned (.tuple #[]) ∧ ∃ v', Wtr w' p v' ([] ++ sgn4) ∧ WStep p (w2.alloc (.cells #[.int .u8 80, .int .u8 84, .int .u8 70, .int .u8 1] 5 (4, 5))) (.slice none 0 0) w' v') := by
      refine rawW_any p (.slice none 0 0) [] ⟨w2.heap.size, 0, none⟩ 4 sgn4 _ ((unhide HW2).keep (S := fun _ => False) ((Fr.refl _ w2).alloc _) (fun e => e) (fun _ _ e => e)) (by simp [sgn4]) (fun j u hu => ?_)
      rw [Go.WideShapes.add_plain]
      simp only [World.cell?, heap_alloc_new, Nat.zero_add]
      rw [← hu]
      simp [sgn4, By]
    have hcv := Lib.run_convert_bytes_const (P := Tryz.prog) w2 22 5 #[.int .u8 80, .int .u8 84, .int .u8 70, .int .u8 1] 4 4 Tryz.underlying22 Tryz.underlying5
    clear W2 b2 HNW HB1 HBX1 hbx2
    go_wp2_with fail
    refine (unhide HRAW).mono ?_
    rintro e w3 ⟨rfl, v3, W3, T3⟩
    have HP3 : Hid (WP p w2 (.slice none 0 0) sgn4 w3) := ⟨v3, by simpa using W3, WStep.trans (w1 := w2.alloc (.cells #[.int .u8 80, .int .u8 84, .int .u8 70, .int .u8 1] 5 (4, 5))) ⟨(Fr.refl _ w2).alloc _, .inl rfl⟩ T3⟩
    clear W3 T3 HRAW HW2 hcv
    -- the box of the profile, and what lies below
    have hEV : ∀ (bs : List Int) (W : World), WP p w2 (.slice none 0 0) bs W → Below w.heap.size w W ∧ W.cell? ⟨w.heap.size, 0, none⟩ = some (.slice a L acap) ∧ w.heap.size < W.heap.size := fun bs W hW => by
      have h1 := hW.bel hp2
      have h2 := (h1.block _ hpw).trans (unhide HBX2)
      obtain ⟨c, -, z⟩ := blk_cells h2
      exact ⟨(unhide HB2).trans (h1.mono (by omega)), c 0, z⟩
    have HEV := hide hEV
    clear hEV
    obtain ⟨v3', W3, T3⟩ := unhide HP3
    have HC4 := hide (uint_any p v3' sgn4 L w3 W3 (by simp [sgn4]) (by omega))
    have HT3 := hide T3
    obtain ⟨-, q0, z0⟩ := unhide HEV _ _ (unhide HP3)
    have ew : IntKind.u64.wrap (L : Int) = (L : Int) := by rw [IntKind.wrap_u64]; omega
    clear W3 T3
    go_wp2_with fail
    refine (unhide HC4).mono ?_
    rintro e w4 ⟨rfl, v4, W4, T4⟩
    have HP4 : Hid (WP p w2 (.slice none 0 0) (sgn4 ++ Wm.uform 9 L ++ (f.take 0).flatMap encL) w4) := ⟨v4, by simpa using W4, (unhide HT3).trans T4⟩
    clear W4 T4 HC4 HT3 HP3 q0 z0 ew
    obtain ⟨-, q0, z0⟩ := unhide HEV _ _ (unhide HP4)
    go_wp2_with fail
    clear q0 z0
    go_loopg [29] L (fun gg t29 wr => ∃ (i : Nat), Hid (i + gg = L) ∧ t29 = .int .i64 (i : Int) ∧ Hid (WP p w2 (.slice none 0 0) (sgn4 ++ Wm.uform 9 L ++ (f.take i).flatMap encL) wr))
    case atStart => exact ⟨0, by unfold Hid; omega, rfl, HP4⟩
    case round =>
      clear HP4
      obtain ⟨i, hi, rfl, hW⟩ := hrel
      have HBI : Hid ((sgn4 ++ Wm.uform 9 L ++ (f.take i).flatMap encL).length ≤ 11000000) := by
        have h1 := encL_all (f.take i) (fun l hl => unhide HL2 l (List.mem_of_mem_take hl))
        have h2 := uform_le L
        have h3 : (f.take i).length ≤ 128 := by rw [List.length_take, unhide hL]; omega
        simp only [List.length_append, sgn4, List.length_cons, List.length_nil, Hid]
        omega
      by_cases hlt : i < L
      · obtain ⟨p0, hp0⟩ : ∃ l, f[i]? = some l := ⟨_, List.getElem?_eq_getElem (by rw [unhide hL]; exact hlt)⟩
        obtain ⟨ab, ao, pa, pc, ea, ha4, ca, ra, ha5, ha6⟩ := unhide HA i p0 hp0
        subst ea
        have HP := hide hp0
        have HR := hide ra
        obtain ⟨N, hN⟩ : ∃ N, Hid (p0.length = N) := ⟨_, hide rfl⟩
        have hNl : N ≤ 2000 := by rw [← unhide hN]; exact unhide HL2 p0 (List.mem_of_getElem? hp0)
        rw [unhide hN] at ca ha5
        obtain ⟨bw, -, -⟩ := unhide HEV _ _ (unhide hW)
        have k0 : wr.cell? ⟨ab, ao + i, none⟩ = _ := (bw.cell (p := ⟨ab, ao + i, none⟩) ha4).trans ca
        have hab := Nat.lt_of_lt_of_le ha4 bw.size
        have i0 : (0 : Int) ≤ (i : Int) := by omega
        have i1 : (i : Int) < (L : Int) := by omega
        obtain ⟨bs0, hbs0⟩ : ∃ b, Hid (sgn4 ++ Wm.uform 9 L ++ (f.take i).flatMap encL = b) := ⟨_, hide rfl⟩
        rw [unhide hbs0] at hW HBI
        obtain ⟨v5, W5, T5⟩ := unhide hW
        have HC5 := hide (uint_any p v5 bs0 N wr W5 (by have := unhide HBI; omega) (by omega))
        have HT5 := hide T5
        have ew : IntKind.u64.wrap (N : Int) = (N : Int) := by rw [IntKind.wrap_u64]; omega
        unfold maxLen at ha6
        obtain ⟨G0, hG0⟩ : ∃ G0 : Nat, Hid (G0 = gk) := ⟨_, hide rfl⟩
        clear hp0 ca ra bw W5 T5
        go_wp2_with fail
        refine (unhide HC5).mono ?_
        rintro e w6 ⟨rfl, v6, W6, T6⟩
        have HP6 : Hid (WP p w2 (.slice none 0 0) (bs0 ++ Wm.uform 9 N ++ (p0.take 0).flatMap encS) w6) := ⟨v6, by simpa using W6, (unhide HT5).trans T6⟩
        clear W6 T6 HC5 HT5 hW k0 hab ew
        go_wp2_with fail
        go_loopg [40] N (fun gg t40 wr => ∃ (j : Nat), Hid (j + gg = N) ∧ t40 = .int .i64 (j : Int) ∧ Hid (WP p w2 (.slice none 0 0) (bs0 ++ Wm.uform 9 N ++ (p0.take j).flatMap encS) wr))
        case atStart => exact ⟨0, by unfold Hid; omega, rfl, HP6⟩
        case round =>
          clear HP6
          obtain ⟨j, hj, rfl, hW⟩ := hrel
          by_cases hjt : j < N
          · obtain ⟨x, hx⟩ : ∃ x, p0[j]? = some x := ⟨_, List.getElem?_eq_getElem (by rw [unhide hN]; exact hjt)⟩
            obtain ⟨xb, xo, ex, hx4, c0, c1, c2, c3⟩ := (unhide HR).spot hx
            subst ex
            obtain ⟨bl, -, -⟩ := unhide HEV _ _ (unhide hW)
            have s0 : wr.cell? ⟨xb, xo + j * 4, none⟩ = _ := (bl.cell (p := ⟨xb, xo + j * 4, none⟩) hx4).trans c0
            have s1 : wr.cell? ⟨xb, xo + j * 4 + 1, none⟩ = _ := (bl.cell (p := ⟨xb, xo + j * 4 + 1, none⟩) hx4).trans c1
            have s2 : wr.cell? ⟨xb, xo + j * 4 + 2, none⟩ = _ := (bl.cell (p := ⟨xb, xo + j * 4 + 2, none⟩) hx4).trans c2
            have s3 : wr.cell? ⟨xb, xo + j * 4 + 3, none⟩ = _ := (bl.cell (p := ⟨xb, xo + j * 4 + 3, none⟩) hx4).trans c3
            have hxr := Nat.lt_of_lt_of_le hx4 bl.size
            have j0 : (0 : Int) ≤ (j : Int) := by omega
            have j1 : (j : Int) < (N : Int) := by omega
            have HXX := hide hx
            have hok := unhide HK p0 (List.mem_of_getElem? (unhide HP)) x (List.mem_of_getElem? hx)
            have htk := unhide HL3 p0 (List.mem_of_getElem? (unhide HP)) x (List.mem_of_getElem? hx)
            have HNO := hide (fun W => numbersOf_any W x hok)
            have HWS := hide (fun W vv (hWt : Wtr W p vv (bs0 ++ Wm.uform 9 N ++ (p0.take j).flatMap encS)) => writeSpot_any p vv (bs0 ++ Wm.uform 9 N ++ (p0.take j).flatMap encS) x W hWt (by
              have h1 := encS_all (p0.take j)
              have h2 := uform_le N
              have h3 : (p0.take j).length ≤ 2000 := by rw [List.length_take]; omega
              have h4 := unhide HBI
              simp only [List.length_append]
              omega) hok htk)
            have HXE : Hid (bs0 ++ Wm.uform 9 N ++ (p0.take j).flatMap encS ++ encS x = bs0 ++ Wm.uform 9 N ++ (p0.take (j + 1)).flatMap encS) := by
              unfold Hid
              rw [take_push hx, List.flatMap_append]
              simp
            obtain ⟨xe, hxe⟩ : ∃ b, Hid (encS x = b) := ⟨_, hide rfl⟩
            rw [unhide hxe] at HWS HXE
            obtain ⟨bs1, hbs1⟩ : ∃ b, Hid (bs0 ++ Wm.uform 9 N ++ (p0.take j).flatMap encS = b) := ⟨_, hide rfl⟩
            rw [unhide hbs1] at hW HWS HXE
            obtain ⟨x0, x1, x2, x3⟩ := x
            unfold nmV spV at HNO
            unfold nmV at HWS
            simp only at HNO HWS s0 s1 s2 s3
            clear bl c0 c1 c2 c3 hx hok htk
            go_wp2_with fail
            refine (unhide HNO _).mono ?_
            rintro e w7 ⟨rfl, b7⟩
            have HW7 := hide ((unhide hW).on (bl_past ((Below.refl _ wr).alloc (Nat.le_refl _) _) b7))
            obtain ⟨v7, W7, T7⟩ := unhide HW7
            have HT7 := hide T7
            have HC8 := hide (unhide HWS w7 v7 W7)
            clear b7 W7 T7 hW HNO HWS HW7
            go_wp2_with fail
            refine (unhide HC8).mono ?_
            rintro e w8 ⟨rfl, v8, W8, T8⟩
            have HN8 : Hid (WP p w2 (.slice none 0 0) (bs0 ++ Wm.uform 9 N ++ (p0.take (j + 1)).flatMap encS) w8) := ⟨v8, by rw [← unhide HXE]; exact W8, (unhide HT7).trans T8⟩
            clear W8 T8 HC8 HT7
            go_wp2_with fail
            go_roundg (gk - 1)
            case measure => have := unhide hj; omega
            case rel => exact ⟨j + 1, by have := unhide hj; unfold Hid; omega, by go_num, HN8⟩
          · have hjN : j = N := by have := unhide hj; omega
            subst hjN
            have HN : Hid (WP p w2 (.slice none 0 0) (sgn4 ++ Wm.uform 9 L ++ (f.take (i + 1)).flatMap encL) wr) := by
              have q := unhide hW
              rw [List.take_of_length_le (by rw [unhide hN]; exact Nat.le_refl _)] at q
              unfold Hid
              rw [take_push (unhide HP), List.flatMap_append, ← List.append_assoc, unhide hbs0]
              have e : [p0].flatMap encL = Wm.uform 9 j ++ p0.flatMap encS := by simp [encL, unhide hN]
              rw [e, ← List.append_assoc]
              exact q
            clear hW
            go_wp2_with fail
            go_roundg (G0 - 1)
            case measure => have h1 := unhide hG0; have h2 := unhide hi; omega
            case rel => exact ⟨i + 1, by have h1 := unhide hG0; have h2 := unhide hi; unfold Hid; omega, by go_num, HN⟩
      · have hiL : i = L := by have := unhide hi; omega
        subst hiL
        have HEN : Hid (encP f = sgn4 ++ Wm.uform 9 i ++ f.flatMap encL) := by unfold Hid encP; rw [unhide hL]
        rw [List.take_of_length_le (by rw [unhide hL]; exact Nat.le_refl _), ← unhide HEN] at hW HBI
        obtain ⟨v9, W9, T9⟩ := unhide hW
        have HD := hide (done_any p v9 (encP f) wr W9 (by have := unhide HBI; omega))
        obtain ⟨bw, -, -⟩ := unhide HEV _ _ (unhide hW)
        have HBW := hide bw
        clear W9 T9 bw hW
        go_wp2_with fail
        refine (unhide HD).mono ?_
        rintro e w10 ⟨v10, rfl, O10, b10⟩
        have HF : Hid (EnQ w f (.returned (.tuple #[v10, .int .i64 0])) w10) := by
          refine .inr ⟨unhide hE, v10, rfl, ?_, bl_past (unhide HBW) b10⟩
          obtain ⟨h1, h2⟩ := O10
          refine ⟨h1, ?_⟩
          rcases h2 with h2 | ⟨g, cap, cur, q1, q2, q3⟩
          · exact .inl h2
          · exact .inr ⟨g, cap, cur, q1, Nat.le_trans (unhide HBW).size q2, q3⟩
        clear O10 b10 HD
        go_wp2_with fail
        go_ret2
        exact unhide HF
  · have d0 : (E != 0) = true := by simpa using h0
    have HF : Hid (∀ w', Below w.heap.size w w' → EnQ w f (.returned (.tuple #[.slice none 0 0, .int .i64 E])) w') := fun w' b => .inl ⟨by rw [unhide hE]; exact h0, by rw [unhide hE], b⟩
    clear h0
    go_enter Tryz.func8, Tryz.ntmps8
    go_wp2_with fail
    refine (unhide HCK).mono ?_
    rintro e w1 ⟨rfl, b1⟩
    have HB1 := hide (bl_past (unhide HB0) b1)
    clear b1
    go_wp2_with fail
    go_ret2
    exact unhide HF _ (unhide HB1)
end Go.Proofs.YtclcebdcdbcpjaaGreat
