/-
  The bytes of a program are bytes.
-/
import Derived.Test.YtlogmdldjmkkjaaGreatDoorDOne
namespace Go.Proofs.YtlogmdldjmkkjaaGreatDoor
open Go.RowKit
set_option linter.unusedVariables false
set_option linter.unusedSimpArgs false
set_option maxRecDepth 100000
theorem toStr_strI (s : ByteArray) : toStr (strI s) = s := by
  unfold toStr strI
  rw [List.map_map]
  have e : ((fun b : Int => UInt8.ofNat b.toNat) ∘ fun b : UInt8 => (b.toNat : Int)) = id := by
    funext b
    simp
  rw [e, List.map_id]

theorem wnum_append (a b : List Int) (acc : Nat) : wnum acc (a ++ b) = wnum (wnum acc a) b := by
  induction a generalizing acc with
  | nil => rfl
  | cons z r ih => rw [List.cons_append, wnum, wnum, ih]

theorem wnum_wpre_at (x : Nat) (hx : x < 2 ^ 64) : ∀ j, j ≤ 8 → wnum 0 (wpre x j) = x / 2 ^ (64 - 8 * j) := by
  intro j
  induction j with
  | zero =>
    intro _
    rw [show wpre x 0 = [] from rfl, wnum]
    exact (Nat.div_eq_of_lt (by simpa using hx)).symm
  | succ j ih =>
    intro hj
    rw [wpre_succ, wnum_append, ih (by omega), wnum, wnum]
    rw [show 64 - 8 * j = (56 - 8 * j) + 8 from by omega, show 64 - 8 * (j + 1) = 56 - 8 * j from by omega, Nat.pow_add, ← Nat.div_div_eq_div_mul]
    rw [Int.toNat_natCast]
    omega

theorem wnum_wpre (x : Nat) (hx : x < 2 ^ 64) : wnum 0 (wpre x 8) = x := by
  rw [wnum_wpre_at x hx 8 (Nat.le_refl _)]
  simp
/-- A reading that takes the form of a thing, and answers it. -/
def Bkr {T : Type} (f : Sr → T × Sr) (fm : List Int) (x : T) : Prop := ∀ t : List Int, f (fm ++ t, 0) = (x, (t, 0))
def Bkr3 {T : Type} (f : Sr → T × Int × Sr) (fm : List Int) (x : T) : Prop := ∀ t : List Int, f (fm ++ t, 0) = (x, 0, (t, 0))
theorem unumMost_back {most : Int} {x : Nat} (h : (x : Int) ≤ most) (hx : x < 2 ^ 64) (t : List Int) : unumMost most (Wm.uform 9 x ++ t) = .ok (x, t) := by
  unfold unumMost
  rw [unum_form x t hx]
  simp only
  rw [if_neg (by omega)]
theorem cnt_back {most n : Int} (h0 : 0 ≤ n) (h1 : n ≤ most) (h2 : most < 9223372036854775808) : Bkr (cnt most) (ufm n) n.toNat := by
  intro t
  unfold cnt ufm
  simp only [if_true]
  rw [unumMost_back (by omega) (by omega)]
theorem txt_back {most : Int} {s : ByteArray} (h1 : (s.size : Int) ≤ most) (h2 : most < 9223372036854775808) : Bkr (txt most) (Wm.uform 9 s.size ++ strI s) s := by
  intro t
  unfold txt
  simp only [if_true, List.append_assoc]
  rw [unumMost_back h1 (by omega)]
  simp only
  rw [if_neg (by rw [List.length_append, strI_length]; omega), ← strI_length s, List.take_left, List.drop_left, toStr_strI]
theorem wrd_back {x : Nat} (h : x < 2 ^ 64) : Bkr wrd (wpre x 8) x := by
  intro t
  unfold wrd
  have hl := wpre_length x 8
  simp only [if_true]
  rw [if_neg (by rw [List.length_append, hl]; omega)]
  have e1 : (wpre x 8 ++ t).take 8 = wpre x 8 := List.take_left' hl
  have e2 : (wpre x 8 ++ t).drop 8 = t := List.drop_left' hl
  rw [e1, e2, wnum_wpre x h]
theorem raw_back (b : List Int) : Bkr (raw b.length) b b := by
  intro t
  unfold raw
  simp only [if_true]
  rw [if_neg (by rw [List.length_append]; omega), List.take_left, List.drop_left]
/-- A handler that stands in a function of at most two thousand instructions. -/
def OkH (h : Hd) : Prop := (0 ≤ h.frm ∧ h.frm ≤ 2000) ∧ (0 ≤ h.to ∧ h.to ≤ 2000) ∧ (0 ≤ h.target ∧ h.target ≤ 2000) ∧ (0 ≤ h.height ∧ h.height ≤ 64)
theorem rdH1_back {h : Hd} (k : OkH h) : Bkr3 rdH1 (hfm h) h := by
  obtain ⟨⟨a1, a2⟩, ⟨b1, b2⟩, ⟨c1, c2⟩, d1, d2⟩ := k
  intro t
  unfold rdH1 rdH hfm
  simp only [List.append_assoc]
  rw [cnt_back a1 a2 (by decide)]
  simp only
  rw [cnt_back b1 b2 (by decide)]
  simp only
  rw [cnt_back c1 c2 (by decide)]
  simp only
  rw [cnt_back d1 d2 (by decide)]
  simp only
  congr 1
  cases h
  simp only [Hd.mk.injEq] at *
  omega
theorem lp_back {T : Type} {rd : Sr → T × Int × Sr} {fm : T → List Int} : ∀ (l acc : List T) (t : List Int), (∀ x ∈ l, Bkr3 rd (fm x) x) → lp rd l.length acc (l.flatMap fm ++ t, 0) = (acc ++ l, 0, (t, 0))
  | [], acc, t, _ => by simp [lp]
  | x :: r, acc, t, h => by
    rw [List.length_cons, lp, List.flatMap_cons, List.append_assoc, h x (List.mem_cons_self ..)]
    simp only [ne_eq, not_true_eq_false, if_false]
    rw [lp_back r (acc ++ [x]) t (fun y hy => h y (List.mem_cons_of_mem _ hy)), List.append_assoc]
    rfl
theorem rdL_back {T : Type} {rd : Sr → T × Int × Sr} {fm : T → List Int} {most : Int} (l : List T) (h : ∀ x ∈ l, Bkr3 rd (fm x) x) (hl : (l.length : Int) ≤ most) (h2 : most < 9223372036854775808) : Bkr3 (rdL rd most) (lfm fm l) l := by
  intro t
  unfold rdL lfm
  rw [List.append_assoc, cnt_back (by omega) hl h2]
  simp only
  rw [show ((l.length : Int)).toNat = l.length by omega, lp_back l [] t h, List.nil_append]
theorem isEmpty_ba {s : ByteArray} (h : s.toList.isEmpty = true) : s = ByteArray.empty := by
  have h1 : s.toList = [] := by simpa using h
  rw [ByteArray.toList_eq] at h1
  cases hs : s with
  | mk d =>
    rw [hs] at h1
    have : d = #[] := by simpa using h1
    rw [this]
    rfl
theorem rdC_back {c : Cn} (h : rfB c = true) (ht : c.text.size ≤ 4096) (hn : I64 c.n) : Bkr3 rdC (cfm c) c ∧ NnC c := by
  obtain ⟨k, n, s⟩ := c
  simp only at ht hn
  unfold rfB at h
  by_cases h3 : k = 3
  · subst h3
    simp only [if_true] at h
    have he := isEmpty_ba (s := s) (by simp at h; simpa using h.1)
    subst he
    refine ⟨fun t => ?_, .inl rfl, by simp, hn⟩
    unfold cfm
    simp only [if_true]
    have hw : (IntKind.u64.wrap n).toNat < 2 ^ 64 := by rw [wrap_u]; unfold I64 at hn; omega
    have hb : ∀ u : List Int, byt (3 :: u, 0) = (3, (u, 0)) := fun u => by unfold byt; rfl
    unfold rdC
    rw [List.cons_append, hb]
    simp only [if_true]
    rw [wrd_back hw]
    simp only
    have : wrap64 ((IntKind.u64.wrap n).toNat : Int) = n := by
      rw [wrap_u]; unfold wrap64; unfold I64 at hn; omega
    rw [this]
  · simp only [if_neg h3] at h
    by_cases h4 : k = 4
    · subst h4
      simp only [if_true, decide_eq_true_eq] at h
      subst h
      refine ⟨fun t => ?_, .inr rfl, ht, hn⟩
      unfold cfm
      simp only [if_neg (show ¬ (4 : Int) = 3 by decide)]
      have hb : ∀ u : List Int, byt (4 :: u, 0) = (4, (u, 0)) := fun u => by unfold byt; rfl
      unfold rdC
      rw [List.cons_append, hb]
      simp only [if_neg (show ¬ (4 : Int) = 3 by decide), if_true]
      rw [txt_back (by omega) (by decide)]
    · simp [if_neg h4] at h
/-- What is known of a function of a right program. -/
def OkFb (f : Fc) : Prop := f.name.size ≤ 32 ∧ (0 ≤ f.params ∧ f.params ≤ 64) ∧ (0 ≤ f.locals ∧ f.locals ≤ 64) ∧ encE f.code = 0 ∧ 0 < f.code.length ∧ (∀ q ∈ f.code, I64 q.1 ∧ I64 q.2) ∧ (∀ x ∈ f.hs, OkH x) ∧ f.hs.length ≤ 32
theorem OkFb.nn {f : Fc} (h : OkFb f) : NnF f := by
  obtain ⟨a1, a2, a3, a4, a5, a6, a7, a8⟩ := h
  refine ⟨a1, by omega, by omega, (encE_ok a4).1, a6, fun x hx => ?_, a8, ?_⟩
  · obtain ⟨b1, b2, b3, b4⟩ := a7 x hx
    unfold NnH
    omega
  · rw [encB_ok a4]
    cases hc : f.code with
    | nil => rw [hc] at a5; simp at a5
    | cons q r => simp [efm, ifm]
theorem rdF_back {f : Fc} (h : OkFb f) : Bkr3 rdF (ffm f) f := by
  obtain ⟨a1, ⟨a2, a3⟩, ⟨a4, a5⟩, a6, a7, a8, a9, a10⟩ := h
  intro t
  have hd := dec_back a8 a6
  have hl := encB_lenW f.code
  have h0 : rdF0 (ffm f ++ t, 0) = ((f.name, f.params.toNat, f.locals.toNat, encB f.code), (lfm hfm f.hs ++ t, 0)) := by
    unfold rdF0 ffm
    simp only [List.append_assoc]
    rw [← List.append_assoc (Wm.uform 9 f.name.size), txt_back (by omega) (by decide)]
    simp only
    rw [cnt_back a2 a3 (by decide)]
    simp only
    rw [cnt_back a4 a5 (by decide)]
    simp only
    rw [cnt_back (by omega) (by omega) (by decide)]
    simp only
    rw [show (((encB f.code).length : Int)).toNat = (encB f.code).length by omega, raw_back]
  unfold rdF
  rw [h0]
  simp only
  rw [hd]
  simp only [errOf, lstOf, ne_eq, not_true_eq_false, if_false]
  rw [rdL_back f.hs (fun x hx => rdH1_back (a9 x hx)) (by omega) (by decide) t]
  simp only
  congr 1
  cases f
  simp only [Fc.mk.injEq] at *
  refine ⟨trivial, by omega, by omega, trivial, trivial⟩
/-- What is known of the numbers of a program in memory. -/
def NumP (p : Pg) : Prop := (∀ c ∈ p.consts, I64 c.n) ∧ ∀ f ∈ p.funcs, ∀ q ∈ f.code, I64 q.1 ∧ I64 q.2
theorem okFb_of {p : Pg} (hck : ckF p = none) (hn : NumP p) : ∀ f ∈ p.funcs, OkFb f := by
  intro f hf
  obtain ⟨i, hi⟩ := List.getElem?_of_mem hf
  have hfn := (ckF_none.1 hck).2.2.2 i f hi
  obtain ⟨k1, k2, k3, k4⟩ := fnF_none.1 hfn
  obtain ⟨_, n2, _⟩ := nmF_none.1 k1
  obtain ⟨s1, s2, _, s4, s5, s6⟩ := szF_none.1 k2
  have hc := cdF_none.1 k3
  obtain ⟨g1, g2⟩ := hsF_none.1 k4
  refine ⟨n2, by omega, by omega, encE_of s6 ?_, s5, hn.2 f hf, fun x hx => ?_, g1⟩
  · unfold okL
    rw [List.all_eq_true]
    intro q hq
    obtain ⟨j, hj⟩ := List.getElem?_of_mem hq
    have := (hc j q hj).1
    unfold erN at this
    by_cases e : okB q.1 q.2 = true
    · exact e
    · rw [if_neg e] at this; exact absurd this (by decide)
  · obtain ⟨j, hj⟩ := List.getElem?_of_mem hx
    have := g2 j x hj
    unfold fitB at this
    simp only [decide_eq_true_eq] at this
    unfold OkH
    omega
theorem okC_of {p : Pg} (hck : ckF p = none) (hn : NumP p) : ∀ c ∈ p.consts, Bkr3 rdC (cfm c) c ∧ NnC c := by
  intro c hc
  obtain ⟨i, hi⟩ := List.getElem?_of_mem hc
  have h := (ckF_none.1 hck).1.2 i c hi
  unfold conE at h
  by_cases h1 : rfB c = false
  · rw [if_pos h1] at h; exact absurd h (by decide)
  · rw [if_neg h1] at h
    by_cases h2 : c.text.size > 4096
    · rw [if_pos h2] at h; exact absurd h (by decide)
    · exact rdC_back (by simpa using h1) (by omega) (hn.1 c hc)
theorem num_nn {p : Pg} (hn : NumP p) : ckF p = none → (∀ c ∈ p.consts, NnC c) ∧ (∀ f ∈ p.funcs, NnF f) ∧ p.consts.length ≤ 512 ∧ p.funcs.length ≤ 128 := fun hck =>
  ⟨fun c hc => (okC_of hck hn c hc).2, fun f hf => (okFb_of hck hn f hf).nn, (ckF_none.1 hck).1.1, (ckF_none.1 hck).2.2.1⟩
theorem rdP_back {p : Pg} (hck : ckF p = none) (hn : NumP p) : rdP (pfm p, 0) = (p, 0) := by
  have h1 := rdL_back (most := 512) p.consts (fun c hc => (okC_of hck hn c hc).1) (by have := (ckF_none.1 hck).1.1; omega) (by decide)
  have h2 := rdL_back (most := 128) p.funcs (fun f hf => rdF_back (okFb_of hck hn f hf)) (by have := (ckF_none.1 hck).2.2.1; omega) (by decide)
  have h0 : raw 4 (pfm p, 0) = ([80, 84, 80, 1], (lfm cfm p.consts ++ lfm ffm p.funcs, 0)) := raw_back [80, 84, 80, 1] _
  have hs : (toStr [80, 84, 80, 1]).toList = sgn4 := by rw [ByteArray.toList_eq]; rfl
  have h3 := h2 []
  rw [List.append_nil] at h3
  unfold rdP
  rw [h0]
  simp only
  rw [if_neg (by rw [hs]; simp), h1]
  simp only [ne_eq, not_true_eq_false, if_false]
  rw [h3]
  simp [rEnd]
/-- There and back. -/
theorem decP_back {p : Pg} (hn : NumP p) (h : (enP p).2 = 0) : decP (enP p).1 = (p, 0) ∧ ckF p = none := by
  have hck : ckF p = none := by
    unfold enP at h
    cases hc : ckF p with
    | none => rfl
    | some e => obtain ⟨k, a, y⟩ := e; rw [hc] at h; exact absurd h (ckF_ne hc)
  refine ⟨?_, hck⟩
  unfold enP at h ⊢
  rw [hck] at h ⊢
  simp only at h ⊢
  by_cases q : 4194304 < (pfm p).length
  · rw [if_pos q] at h; exact absurd h (by decide)
  · rw [if_neg q]
    unfold decP
    simp only
    rw [if_neg q, rdP_back hck hn]
    simp only [ne_eq, not_true_eq_false, if_false]
    rw [hck]
/-- The error that Encode tells. -/
theorem enP_err {p : Pg} : (∀ k a y, ckF p = some (k, a, y) → (enP p).2 = y) ∧ (ckF p = none → (enP p).2 = 0 ∨ (enP p).2 = 5) := by
  refine ⟨fun k a y h => by unfold enP; rw [h], fun h => ?_⟩
  unfold enP
  rw [h]
  simp only
  by_cases q : 4194304 < (pfm p).length
  · rw [if_pos q]; exact .inr rfl
  · rw [if_neg q]; exact .inl rfl

set_option linter.unusedVariables false
set_option linter.unusedSimpArgs false
set_option maxRecDepth 100000
theorem bok_nil : BOk [] := fun b hb => by simp at hb
theorem bok_cons {b : Int} {l : List Int} (h0 : 0 ≤ b ∧ b < 256) (h : BOk l) : BOk (b :: l) := fun x hx => by
  rcases List.mem_cons.1 hx with rfl | hx
  · exact h0
  · exact h x hx
theorem bok_fm {T : Type} {f : T → List Int} {l : List T} (h : ∀ x ∈ l, BOk (f x)) : BOk (l.flatMap f) := fun b hb => by
  obtain ⟨x, hx, hb⟩ := List.mem_flatMap.1 hb
  exact h x hx b hb
theorem uf_bok (x : Nat) (h : x < 2 ^ 64) : BOk (Wm.uform 9 x) := uform_bok 9 x (by omega)
theorem ufm_bok {n : Int} (h : n ≤ 9223372036854775807) : BOk (ufm n) := by unfold ufm; exact uf_bok _ (by omega)
theorem lfm_bok {T : Type} {f : T → List Int} {l : List T} (h : ∀ x ∈ l, BOk (f x)) (hl : l.length ≤ 9000000000000) : BOk (lfm f l) := (ufm_bok (by omega)).append (bok_fm h)
theorem hfm_bok {h : Hd} (k : NnH h) : BOk (hfm h) := by
  obtain ⟨⟨_, a⟩, ⟨_, b⟩, ⟨_, c⟩, _, d⟩ := k
  exact (ufm_bok a).append ((ufm_bok b).append ((ufm_bok c).append (ufm_bok d)))
theorem cfm_bok {c : Cn} (k : NnC c) : BOk (cfm c) := by
  obtain ⟨k1, k2, k3⟩ := k
  unfold cfm
  refine bok_cons (by omega) ?_
  split
  · exact wpre_bok _ _
  · exact (uf_bok _ (by omega)).append (strI_bok _)
theorem opF_bok (k : Nat) {a : Int} (h : I64 a) : BOk (opF k a) := by
  unfold opF
  split
  · exact bok_nil
  · split
    · have hb := foldI_bd a h.1 h.2
      exact uf_bok _ (by omega)
    · exact uf_bok _ (by omega)
theorem encB_bok {l : List (Int × Int)} (h : ∀ q ∈ l, I64 q.1 ∧ I64 q.2) : BOk (encB l) := by
  unfold encB
  split
  · rename_i he
    obtain ⟨_, ho⟩ := encE_ok he
    unfold efm
    refine bok_fm fun q hq => ?_
    unfold ifm
    have hop : okB q.1 q.2 = true := by
      unfold okL at ho
      exact List.all_eq_true.1 ho q hq
    have h2 : isOp q.1 = true := (okB_split hop).1
    have h3 : 0 ≤ q.1 ∧ q.1 < 67 := by simpa [isOp] using h2
    exact bok_cons (by omega) (opF_bok _ (h q hq).2)
  · exact bok_nil
theorem ffm_bok {f : Fc} (k : NnF f) : BOk (ffm f) := by
  obtain ⟨k1, ⟨_, k2⟩, ⟨_, k3⟩, k4, k5, k6, k7, k8⟩ := k
  unfold ffm
  have hl := encB_lenW f.code
  exact ((uf_bok _ (by omega)).append (strI_bok _)).append ((ufm_bok k2).append ((ufm_bok k3).append ((ufm_bok (by omega)).append ((encB_bok k5).append (lfm_bok (fun x hx => hfm_bok (k6 x hx)) (by omega))))))
theorem enP_bok {p : Pg} (hn : NumP p) (h : (enP p).2 = 0) : BOk (enP p).1 := by
  have hck := (decP_back hn h).2
  obtain ⟨n1, n2, n3, n4⟩ := num_nn hn hck
  unfold enP
  rw [hck]
  simp only
  split
  · exact bok_nil
  · unfold pfm
    refine BOk.append ?_ ((lfm_bok (fun c hc => cfm_bok (n1 c hc)) (by omega)).append (lfm_bok (fun f hf => ffm_bok (n2 f hf)) (by omega)))
    have : ∀ b ∈ ([80, 84, 80, 1] : List Int), 0 ≤ b ∧ b < 256 := by decide
    exact this
end Go.Proofs.YtlogmdldjmkkjaaGreatDoor
