/-
  Keys and values of an object that comes in: the program's rightKeys, rightValues.
-/
import Derived.Test.YtfoanikkngmeiaaLSo
namespace Go.Proofs.Ytfoanikkngmeiaa
open Go.RowKit
set_option linter.unusedVariables false
set_option linter.unusedSimpArgs false
/-- The first keys, rising, are right. -/
def kUp (l : List Int) (i : Nat) : Prop := ∀ (j : Nat) (k : Int), j < i → (srt l)[j]? = some k → 0 ≤ k ∧ (0 < j → (srt l)[j - 1]? ≠ some k)
theorem kUp.all {l : List Int} {L : Nat} (hL : l.length = L) (h : kUp l L) : kRb l = true := by
  unfold kRb
  refine Dc_true ((srt_iff l).1 fun i k hk => h i k ?_ hk)
  have := (List.getElem?_eq_some_iff.1 hk).1
  have e : (l.mergeSort (fun x y => decide (x ≤ y))).length = l.length := List.length_mergeSort _
  omega
theorem kUp.no {l : List Int} {i : Nat} {k : Int} (hk : (srt l)[i]? = some k) (h : k < 0 ∨ (0 < i ∧ (srt l)[i - 1]? = some k)) : kRb l = false := by
  unfold kRb
  refine Dc_false fun q => ?_
  have := (srt_iff l).2 q i k hk
  rcases h with h | ⟨h1, h2⟩
  · omega
  · exact this.2 h1 h2
theorem kUp.step {l : List Int} {i : Nat} {k : Int} (h : kUp l i) (hk : (srt l)[i]? = some k) (h0 : 0 ≤ k) (h1 : 0 < i → (srt l)[i - 1]? ≠ some k) : kUp l (i + 1) := fun j q hj hq => by
  by_cases e : j = i
  · subst e
    rw [hk] at hq
    cases hq
    exact ⟨h0, h1⟩
  · exact h j q (by omega) hq
set_option maxRecDepth 100000 in
set_option maxHeartbeats 1600000 in
theorem keys_any {w : World} {kv : Value} {l : List Int} (h : Rx w 1 kv l.length (flt enL l)) (hN : l.length ≤ 1048576) :
    Calls Try.prog 35 #[kv] w fun e w' => e = .returned (.bool (kRb l)) ∧ Below w.heap.size w w' := by
  have HC := hide (cloneL_any h hN (oneL l))
  obtain ⟨ka, kc, rfl, _, _⟩ := h.shape
  clear h
  by_cases h0 : l.length = 0
  · obtain rfl : l = [] := List.eq_nil_of_length_eq_zero h0
    have hr : kRb [] = true := by unfold kRb; exact Dc_true (by simp)
    rw [hr]
    clear hr h0 hN
    simp only [List.length_nil] at HC ⊢
    go_enter Try.func35, Try.ntmps35
    go_wp2_with fail
    refine (unhide HC).mono ?_
    rintro e w1 ⟨v, rfl, g1, g2, g3⟩
    have HS := hide (sort_none g1)
    obtain ⟨va, vc, rfl, _⟩ := g1.shape
    have HB := hide g2
    clear g1 g2 g3 HC
    go_wp2_with fail
    refine (unhide HS).mono ?_
    rintro e w2 ⟨rfl, e2⟩
    subst e2
    go_wp2_with fail
    go_loopg [4, 5, 12] 0 (fun g t4 t5 t12 wr => t12 = .int .i64 0 ∧ wr = w2)
    case atStart => exact ⟨rfl, rfl⟩
    case round =>
      obtain ⟨rfl, rfl⟩ := hrel
      go_wp2_with fail
      go_ret
      exact ⟨rfl, unhide HB⟩
  · obtain ⟨L, hL⟩ : ∃ L, Hid (l.length = L) := ⟨_, hide rfl⟩
    have h0' : 0 < l.length := by omega
    have HL0 := hide h0'
    have HN := hide hN
    rw [unhide hL] at HC hN ⊢
    clear h0 h0'
    go_enter Try.func35, Try.ntmps35
    go_wp2_with fail
    refine (unhide HC).mono ?_
    rintro e w1 ⟨v, rfl, g1, g2, g3⟩
    obtain ⟨g, off, vc, rfl, hl1, hl2, _, _⟩ := g1.full (unhide HL0)
    have hge := g3 g rfl
    have HS := hide (sort_any g1 (unhide HN) (unhide HL0))
    rw [unhide hL] at HS hl1 ⊢
    have HB := hide g2
    clear g1 g2 g3 HC
    go_wp2_with fail
    refine (unhide HS).mono ?_
    rintro e w2 ⟨rfl, hcell, hgl, hfr⟩
    have HB2 := hide ((unhide HB).trans (hfr.below (unhide HB).size (fun k hk e => by omega)))
    have HCE := hide hcell
    clear HS hfr hcell HB
    go_wp2_with fail
    go_loopg [4, 5, 12] L (fun gg t4 t5 t12 wr => ∃ (i : Nat), Hid (i + gg = L) ∧ t12 = .int .i64 (i : Int) ∧ wr = w2 ∧ Hid (kUp l i))
    case atStart => exact ⟨0, by unfold Hid; omega, rfl, rfl, fun j k hj => by omega⟩
    case round =>
      obtain ⟨i, hi, rfl, e, hU⟩ := hrel
      subst e
      by_cases hlt : i < L
      · have hil : i < (srt l).length := by rw [srt_length, unhide hL]; exact hlt
        obtain ⟨k, hk⟩ : ∃ k, (srt l)[i]? = some k := ⟨_, List.getElem?_eq_getElem hil⟩
        have c0 := unhide HCE i k hk
        have HK := hide hk
        have i0 : (0 : Int) ≤ (i : Int) := by omega
        have i1 : (i : Int) < (L : Int) := by omega
        clear hk
        by_cases hneg : k < 0
        · have HR := hide (kUp.no (unhide HK) (.inl hneg))
          have d0 : decide (k < 0) = true := decide_eq_true hneg
          clear HK hU
          go_wp2_with fail
          go_ret
          exact ⟨by rw [unhide HR]; rfl, unhide HB2⟩
        · have d0 : decide (k < 0) = false := decide_eq_false hneg
          rcases Nat.eq_zero_or_pos i with hz | hp
          · subst hz
            have hU2 := hide ((unhide hU).step (unhide HK) (by omega) (fun q => by omega))
            rw [Nat.add_zero] at c0
            clear HK hU hneg
            go_wp2_with fail
            go_roundg (gk - 1)
            case measure => have := unhide hi; omega
            case rel => exact ⟨1, by have := unhide hi; unfold Hid; omega, by go_num, rfl, hU2⟩
          · obtain ⟨j, rfl⟩ : ∃ j, i = j + 1 := ⟨i - 1, by omega⟩
            obtain ⟨q, hq⟩ : ∃ q, (srt l)[j]? = some q := ⟨_, List.getElem?_eq_getElem (by omega)⟩
            have c1 := unhide HCE j q hq
            have HQ := hide hq
            have d1 : decide (((j + 1 : Nat) : Int) > 0) = true := decide_eq_true (by omega)
            have e1 : ((j + 1 : Nat) : Int) - 1 = (j : Int) := by omega
            clear hq
            by_cases hkq : k = q
            · subst hkq
              have HR := hide (kUp.no (unhide HK) (.inr ⟨by omega, unhide HQ⟩))
              have d2 : (k == k) = true := by simp
              clear HK HQ hU hneg
              go_wp2_with fail
              go_ret
              exact ⟨by rw [unhide HR]; rfl, unhide HB2⟩
            · have d2 : (k == q) = false := by simpa using hkq
              have hU2 := hide ((unhide hU).step (unhide HK) (by omega) (fun _ e => by rw [show j + 1 - 1 = j by omega, unhide HQ] at e; cases e; exact hkq rfl))
              clear HK HQ hU hneg hkq
              go_wp2_with fail
              go_roundg (gk - 1)
              case measure => have := unhide hi; omega
              case rel => exact ⟨j + 1 + 1, by have := unhide hi; unfold Hid; omega, by go_num, rfl, hU2⟩
      · have hiL : i = L := by have := unhide hi; omega
        subst hiL
        have HR := hide ((unhide hU).all (unhide hL))
        clear HCE hU
        go_wp2_with fail
        go_ret
        exact ⟨by rw [unhide HR]; rfl, unhide HB2⟩
theorem all_take {T : Type} {p : T → Bool} {l : List T} {i : Nat} {x : T} (h : (l.take i).all p = true) (hx : l[i]? = some x) (hp : p x = true) : (l.take (i + 1)).all p = true := by
  rw [take_push hx, List.all_append, h]
  simp [hp]
theorem all_no {T : Type} {p : T → Bool} {l : List T} {i : Nat} {x : T} (hx : l[i]? = some x) (hp : p x = false) : l.all p = false := by
  rw [List.all_eq_false]
  exact ⟨x, List.mem_of_getElem? hx, by rw [hp]; simp⟩
set_option maxRecDepth 100000 in
set_option maxHeartbeats 1600000 in
theorem values_any {w : World} {iv lv : Value} {l : List (Int × Int)} {os : List Ob} (h : Rx w 2 iv l.length (flt enI l)) (ho : OsV w lv os) (hN : l.length ≤ 1048576) (hO : os.length ≤ 1048576) :
    Calls Try.prog 18 #[iv, lv] w fun e w' => e = .returned (.bool (l.all (vRb (kinds os)))) ∧ Below w.heap.size w w' := by
  have HV : Hid (∀ W k n, Below w.heap.size w W → Calls Try.prog 36 #[.agg #[.int .i64 k, .int .i64 n], lv] W fun e w' => e = .returned (.bool (vRb (kinds os) (k, n))) ∧ Below W.heap.size W w') := fun W k n b => value_any (ho.below b (Nat.le_refl _)) hO k n
  have HC := hide (fun i p (hp : l[i]? = some p) => h.elem zI hp)
  obtain ⟨a, cap, rfl, hlc, hcm⟩ := h.shape
  obtain ⟨oa, oc, rfl, _, _⟩ := ho.shape
  unfold maxLen at hcm
  clear ho h
  obtain ⟨V, hV⟩ : ∃ V, V = vRb (kinds os) := ⟨_, rfl⟩
  rw [← hV] at HV ⊢
  clear hV
  generalize os.length = M at *
  obtain ⟨L, hL⟩ : ∃ L, Hid (l.length = L) := ⟨_, hide rfl⟩
  rw [unhide hL] at hN hlc HC ⊢
  go_enter Try.func18, Try.ntmps18
  go_wp2_with fail
  go_loopg [6, 9] L (fun gg t6 t9 wr => ∃ (i : Nat), Hid (i + gg = L) ∧ t9 = .int .i64 (i : Int) ∧ Hid (Below w.heap.size w wr ∧ (l.take i).all V = true))
  case atStart => exact ⟨0, by unfold Hid; omega, rfl, Below.refl _ _, by simp⟩
  case round =>
    obtain ⟨i, hi, rfl, hB⟩ := hrel
    by_cases hlt : i < L
    · have hil : i < l.length := by rw [unhide hL]; exact hlt
      obtain ⟨p, hp⟩ : ∃ p, l[i]? = some p := ⟨_, List.getElem?_eq_getElem hil⟩
      obtain ⟨b, off, _, e, _, _, hb, c⟩ := unhide HC i p hp
      cases e
      have hs := (unhide hB).1
      have k0 : wr.cell? ⟨b, off + i * 2, none⟩ = some (.int .i64 p.1) := (hs.cell (p := ⟨b, off + i * 2, none⟩) hb).trans (by have := c 0 _ rfl; simpa using this)
      have k1 : wr.cell? ⟨b, off + i * 2 + 1, none⟩ = some (.int .i64 p.2) := (hs.cell (p := ⟨b, off + i * 2 + 1, none⟩) hb).trans (by have := c 1 _ rfl; simpa using this)
      have hbr := Nat.lt_of_lt_of_le hb hs.size
      have i0 : (0 : Int) ≤ (i : Int) := by omega
      have i1 : (i : Int) < (L : Int) := by omega
      have HP := hide hp
      have HB1 : Hid (∀ O, Below w.heap.size w (wr.alloc O)) := fun O => bl_past hs (bl_box wr O)
      clear c hp hs
      go_wp2_with fail
      refine (unhide HV _ _ _ (unhide HB1 _)).mono ?_
      rintro e w2 ⟨rfl, b2⟩
      have HB2 := hide (bl_past (unhide HB1 _) b2)
      clear b2
      cases hv : V (p.1, p.2) with
      | true =>
        have HB3 : Hid (Below w.heap.size w w2 ∧ (l.take (i + 1)).all V = true) := ⟨unhide HB2, all_take (unhide hB).2 (unhide HP) hv⟩
        clear HP hB hv HB1 HB2
        go_wp2_with fail
        go_roundg (gk - 1)
        case measure => have := unhide hi; omega
        case rel => exact ⟨i + 1, by have := unhide hi; unfold Hid; omega, by go_num, HB3⟩
      | false =>
        have HR := hide (all_no (unhide HP) hv)
        clear HP hB hv HB1
        go_wp2_with fail
        go_ret
        exact ⟨by rw [unhide HR]; rfl, unhide HB2⟩
    · have hiL : i = L := by have := unhide hi; omega
      subst hiL
      have HR : Hid (l.all V = true) := by
        have := (unhide hB).2
        rw [List.take_of_length_le (by rw [unhide hL]; exact Nat.le_refl _)] at this
        exact this
      have HB2 := hide (unhide hB).1
      clear HC hB
      go_wp2_with fail
      go_ret
      exact ⟨by rw [unhide HR]; rfl, unhide HB2⟩
end Go.Proofs.Ytfoanikkngmeiaa
