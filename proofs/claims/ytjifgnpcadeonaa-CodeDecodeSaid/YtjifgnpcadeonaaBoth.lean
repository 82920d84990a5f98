/-
  There and back: the words; SameCode.
-/
import Derived.Test.YtjifgnpcadeonaaDec
namespace Go.Proofs.Ytjifgnpcadeonaa
open Go.RowKit
set_option linter.unusedVariables false

theorem right0 {a : Int} (h : rightB 0 a = true) : a = 0 := by
  have e1 : lo 0 = 0 := rfl
  have e2 : hi 0 = 0 := rfl
  simp only [rightB, e1, e2] at h
  simp at h
  omega
theorem rightk {k : Nat} (hk : k < 9) (h0 : k ≠ 0) (h1 : k ≠ 1) {a : Int} (h : rightB k a = true) : 0 ≤ a ∧ a < 9223372036854775808 := by
  by_cases h7 : k = 7
  · subst h7
    have e : rightB 7 a = decide (a = 8 ∨ a = 16 ∨ a = 32) := rfl
    rw [e] at h
    simp at h
    omega
  · have e : rightB k a = decide (lo k ≤ a ∧ a ≤ hi k) := by rw [rightB, if_neg h7]
    rw [e] at h
    have : ∀ k : Fin 9, k.val ≠ 0 → k.val ≠ 1 → 0 ≤ lo k.val ∧ hi k.val < 9223372036854775808 := by decide +kernel
    have q : 0 ≤ lo k ∧ hi k < 9223372036854775808 := this ⟨k, hk⟩ h0 h1
    simp at h
    omega
theorem sI_small {x : Nat} (h : x < 9223372036854775808) : sI x = x := by
  unfold sI
  unfold wrap64
  omega
theorem sI_big {x : Nat} (h0 : 9223372036854775808 ≤ x) (h : x < 2 ^ 64) : sI x < 0 := by
  unfold sI
  unfold wrap64
  omega
theorem opR_back (k : Nat) (hk : k < 9) (a : Int) (ha : I64 a) (h : rightB k a = true) (t : List Int) : opR k (opF k a ++ t) = .ok (a, t) := by
  by_cases h0 : k = 0
  · subst h0
    rw [right0 h]
    rfl
  · by_cases h1 : k = 1
    · subst h1
      have e : opF 1 a = Wm.uform 9 (foldI a).toNat := rfl
      have hb := foldI_bd a ha.1 ha.2
      rw [e]
      unfold opR
      rw [if_neg (by omega), unum_form _ _ (by omega)]
      simp [unfold_fold]
    · have e : opF k a = Wm.uform 9 (a % 18446744073709551616).toNat := by unfold opF; rw [if_neg h0, if_neg h1]
      obtain ⟨q1, q2⟩ := rightk hk h0 h1 h
      rw [e]
      unfold opR
      rw [if_neg h0, unum_form _ _ (by omega)]
      simp only [if_neg h1]
      rw [sI_small (by omega)]
      congr 2
      omega
theorem okB_split {p : Int × Int} (h : okB p.1 p.2 = true) : isOp p.1 = true ∧ rightB (kd p.1.toNat) p.2 = true := by
  simpa [okB] using h
theorem rd1_back (p : Int × Int) (ha : I64 p.2) (h : okB p.1 p.2 = true) (t : List Int) : rd1 p.1 (opF (kd p.1.toNat) p.2 ++ t) = .ok (p, t) := by
  obtain ⟨h1, h2⟩ := okB_split h
  unfold rd1
  rw [if_pos h1, opR_back _ (kd_lt _) _ ha h2]
  simp only [h, if_true]
theorem decG_back : ∀ (l : List (Int × Int)) (f : Nat) (acc : List (Int × Int)), (∀ p ∈ l, I64 p.2) → okL l = true → acc.length + l.length ≤ 2000 → (efm l).length < f → decG f acc (efm l) = .ok (acc ++ l)
  | [], f, acc, _, _, _, _ => by
    have : efm [] = [] := rfl
    rw [this, decG_nil, List.append_nil]
  | p :: r, f, acc, hI, hok, hl, hf => by
    have e : efm (p :: r) = p.1 :: (opF (kd p.1.toNat) p.2 ++ efm r) := by simp [efm, ifm]
    rw [e] at hf ⊢
    obtain ⟨f', rfl⟩ : ∃ f', f = f' + 1 := ⟨f - 1, by simp at hf; omega⟩
    have hp : okB p.1 p.2 = true := by simp [okL] at hok; exact hok.1
    have hr : okL r = true := by simp [okL] at hok ⊢; exact hok.2
    simp only [List.length_cons] at hl
    rw [decG, if_neg (by omega), rd1_back p (hI p (List.mem_cons_self ..)) hp]
    simp only
    rw [decG_back r f' (acc ++ [p]) (fun q hq => hI q (List.mem_cons_of_mem _ hq)) hr (by rw [List.length_append, List.length_singleton]; omega) (by simp at hf; omega)]
    rw [List.append_assoc]; rfl
theorem dec_back {l : List (Int × Int)} (hI : ∀ p ∈ l, I64 p.1 ∧ I64 p.2) (h : encE l = 0) : dec (encB l) = .ok l := by
  obtain ⟨h1, h2⟩ := encE_ok h
  rw [encB_ok h]
  have := decG_back l ((efm l).length + 1) [] (fun p hp => (hI p hp).2) h2 (by simpa using h1) (by omega)
  simpa [dec] using this
theorem opR_one {k : Nat} (hk : k < 9) {t t' : List Int} {a : Int} (hB : BOk t) (h : opR k t = .ok (a, t')) (hr : rightB k a = true) : opF k a ++ t' = t ∧ I64 a := by
  by_cases h0 : k = 0
  · subst h0
    have e : opR 0 t = .ok (0, t) := rfl
    rw [e] at h
    cases h
    exact ⟨rfl, by decide, by decide⟩
  · unfold opR at h
    rw [if_neg h0] at h
    split at h
    · cases h
    · rename_i x t2 hu
      obtain ⟨hx, _⟩ := unum_lt 0 0 t x t2 (by omega) (by decide) hB hu
      have h1 := unum_one t x t2 hB hu
      cases h
      by_cases h1k : k = 1
      · subst h1k
        rw [if_pos rfl]
        have e : opF 1 (unfoldI x) = Wm.uform 9 (foldI (unfoldI x)).toNat := rfl
        rw [e, fold_unfold]
        exact ⟨by simpa using h1, unfold_bd x hx⟩
      · rw [if_neg h1k] at hr ⊢
        obtain ⟨q1, q2⟩ := rightk hk h0 h1k hr
        have hs : x < 9223372036854775808 := by
          rcases Nat.lt_or_ge x 9223372036854775808 with c | c
          · exact c
          · have := sI_big c hx; omega
        rw [sI_small hs] at q1 q2 ⊢
        have e : opF k (x : Int) = Wm.uform 9 ((x : Int) % 18446744073709551616).toNat := by unfold opF; rw [if_neg h0, if_neg h1k]
        rw [e, show ((x : Int) % 18446744073709551616).toNat = x by omega]
        exact ⟨h1, by unfold I64; omega⟩
theorem rd1_one {b : Int} {t t' : List Int} {p : Int × Int} (hB : BOk t) (h : rd1 b t = .ok (p, t')) : ifm p ++ t' = b :: t ∧ okB p.1 p.2 = true ∧ I64 p.1 ∧ I64 p.2 := by
  obtain ⟨_, _, q1, q2, q3, q4⟩ := rd1_ok hB h
  obtain ⟨_, q5⟩ := okB_split q2
  rw [q1] at q5
  obtain ⟨q6, q7⟩ := opR_one (kd_lt _) hB q3 q5
  refine ⟨?_, q2, ?_, q7⟩
  · unfold ifm
    rw [q1, List.cons_append, q6]
  · have : 0 ≤ b ∧ b < 67 := by simpa [isOp] using q4
    rw [q1]; unfold I64; omega
theorem decG_one : ∀ (f : Nat) (acc l : List (Int × Int)) (B : List Int), BOk B → B.length < f → acc.length ≤ 2000 → decG f acc B = .ok l → ∃ m, l = acc ++ m ∧ okL m = true ∧ efm m = B ∧ l.length ≤ 2000 ∧ ∀ p ∈ m, I64 p.1 ∧ I64 p.2
  | 0, _, _, _, _, hf, _, _ => by omega
  | f + 1, acc, l, [], _, _, ha, h => by
    rw [decG_nil] at h
    cases h
    exact ⟨[], by simp, rfl, rfl, ha, fun p hp => by cases hp⟩
  | f + 1, acc, l, b :: t, hB, hf, ha, h => by
    rw [decG] at h
    split at h
    · cases h
    · rename_i hne
      split at h
      · cases h
      · rename_i p t' hrd
        have hBt : BOk t := fun x hx => hB x (List.mem_cons_of_mem _ hx)
        obtain ⟨q1, q2, q3⟩ := rd1_one hBt hrd
        obtain ⟨q4, q5, _⟩ := rd1_ok hBt hrd
        obtain ⟨m, e1, e2, e3, e4, e5⟩ := decG_one f (acc ++ [p]) l t' q4 (by simp at hf; omega) (by rw [List.length_append, List.length_singleton]; omega) h
        refine ⟨p :: m, by rw [e1]; simp, ?_, ?_, e4, ?_⟩
        · simp [okL] at e2 ⊢; exact ⟨q2, e2⟩
        · rw [← q1, ← e3]; simp [efm]
        · intro q hq
          rcases List.mem_cons.1 hq with rfl | hq
          · exact q3
          · exact e5 q hq
theorem dec_one {B : List Int} (hB : BOk B) {l : List (Int × Int)} (h : dec B = .ok l) : encE l = 0 ∧ encB l = B ∧ ∀ p ∈ l, I64 p.1 ∧ I64 p.2 := by
  obtain ⟨m, e1, e2, e3, e4, e5⟩ := decG_one _ [] l B hB (by omega) (by simp) h
  simp at e1
  subst e1
  have e := encE_of e4 e2
  exact ⟨e, by rw [encB_ok e, e3], e5⟩

theorem errOf_ne {B : List Int} (e : Int) (h : dec B = .error e) : e ≠ 0 := by
  have : ∀ (f : Nat) (acc : List (Int × Int)) (B : List Int), decG f acc B = .error e → e ≠ 0 := by
    intro f
    induction f with
    | zero => intro acc B h; cases h
    | succ f ih =>
      intro acc B h
      cases B with
      | nil => rw [decG_nil] at h; cases h
      | cons b t =>
        rw [decG] at h
        split at h
        · cases h; decide
        · split at h
          · rename_i er hrd
            cases h
            unfold rd1 at hrd
            split at hrd
            · split at hrd
              · rename_i e2 ho
                cases hrd
                exact opR_err ho
              · split at hrd
                · cases hrd
                · cases hrd; decide
            · cases hrd; decide
          · exact ih _ _ h
  exact this _ _ _ h

set_option maxRecDepth 100000 in
set_option maxHeartbeats 4000000 in
theorem sameC_any {w : World} {u v : Value} {l : List (Int × Int)} (hu : RtV w u l) (hv : RtV w v l) :
    Calls Try.prog 20 #[u, v] w fun e w' => e = .returned (.bool true) ∧ ∃ k, w' = w.drewN k := by
  obtain ⟨ua, uc, rfl, hu1, um, hU⟩ := hu
  obtain ⟨va, vc, rfl, hv1, vm, hV⟩ := hv
  have HU := hide hU
  have HV := hide hV
  obtain ⟨L, hL⟩ : ∃ L, Hid (l.length = L) := ⟨_, rfl⟩
  have hLm : L ≤ maxLen := by rw [← unhide hL]; omega
  unfold maxLen at hLm
  rw [unhide hL] at ⊢
  clear hU hV um vm hu1 hv1
  have d0 : (((L : Nat) : Int) != (L : Int)) = false := by simp
  go_enter Try.func20, Try.ntmps20
  go_wp2_with fail
  go_loopg [5] L (fun gg t5 wr => ∃ (i : Nat), Hid (i + gg = L) ∧ t5 = .int .i64 (i : Int) ∧ Hid (∃ k, wr = w.drewN k))
  case atStart => exact ⟨0, by unfold Hid; omega, rfl, 0, rfl⟩
  case round =>
    obtain ⟨i, hi, rfl, hB⟩ := hrel
    by_cases hlt : i < L
    · have hil : i < l.length := by rw [unhide hL]; exact hlt
      obtain ⟨p, hp⟩ : ∃ p, l[i]? = some p := ⟨_, List.getElem?_eq_getElem hil⟩
      obtain ⟨b, so, rfl, hb, c0, c1⟩ := unhide HU i p hp
      obtain ⟨g, off, rfl, hg, q0, q1⟩ := unhide HV i p hp
      have fd : Fr (fun _ => False) w wr := by obtain ⟨k, e⟩ := unhide hB; rw [e]; exact ⟨rfl, rfl, rfl, Nat.le_refl _, fun _ _ _ => rfl⟩
      have lb := Nat.lt_of_lt_of_le hb fd.size
      have lg := Nat.lt_of_lt_of_le hg fd.size
      have k0 := (fd.cell (a := ⟨b, so + i * 2, none⟩) hb (fun e => e)).trans c0
      have k1 := (fd.cell (a := ⟨b, so + i * 2 + 1, none⟩) hb (fun e => e)).trans c1
      have r0 := (fd.cell (a := ⟨g, off + i * 2, none⟩) hg (fun e => e)).trans q0
      have r1 := (fd.cell (a := ⟨g, off + i * 2 + 1, none⟩) hg (fun e => e)).trans q1
      have i0 : (0 : Int) ≤ (i : Int) := by omega
      have i1 : (i : Int) < (L : Int) := by omega
      clear c0 c1 q0 q1 hp hb hg fd
      go_wp2_with fail
      go_quiet (fail)
      go_wp2_with fail
      go_roundg (gk - 1)
      case measure => have := unhide hi; omega
      case rel => exact ⟨i + 1, by have := unhide hi; unfold Hid; omega, by go_num, by obtain ⟨k, e⟩ := unhide hB; exact ⟨k + nq, by rw [e, World.drewN_drewN]⟩⟩
    · have hiL : i = L := by have := unhide hi; omega
      subst hiL
      obtain ⟨k, rfl⟩ := unhide hB
      go_wp2_with fail
      go_ret
      exact ⟨rfl, k, rfl⟩
end Go.Proofs.Ytjifgnpcadeonaa
