/-
  What is encoded is read back, and no beginning of it. (No Go in sight.)
-/
import Derived.Test.YtaldacjeeccbhaaD4
import Derived.Test.YtaldacjeeccbhaaBackMath2
import Derived.Laws.BitsAllLaws
import Derived.Laws.BitsLemmas
namespace Go.Proofs.Ytaldacjeeccbhaa
open Go.RowKit
set_option linter.unusedVariables false
set_option linter.unusedSimpArgs false
/-- A form is read as x; of a proper beginning it is said that it is too short. -/
def Rds {X : Type} (R : List Int → Except Int (X × List Int)) (F : List Int) (x : X) : Prop :=
  (∀ rest, R (F ++ rest) = .ok (x, rest)) ∧ ∀ c, c < F.length → R (F.take c) = .error 2
def thn {X Y : Type} (o : Except Int (X × List Int)) (K : X → List Int → Except Int (Y × List Int)) : Except Int (Y × List Int) := match o with | .error e => .error e | .ok (z, t) => K z t
theorem Rds.seq {X Y : Type} {R : List Int → Except Int (X × List Int)} {K : X → List Int → Except Int (Y × List Int)} {Q : List Int → Except Int (Y × List Int)} {F G : List Int} {x : X} {y : Y} (hQ : ∀ bs, Q bs = thn (R bs) K) (h : Rds R F x) (k : Rds (K x) G y) : Rds Q (F ++ G) y := by
  refine ⟨fun rest => ?_, fun c hc => ?_⟩
  · rw [hQ, List.append_assoc, h.1]
    exact k.1 rest
  · rw [hQ]
    by_cases q : c < F.length
    · rw [List.take_append_of_le_length (by omega), h.2 c q]
      rfl
    · rw [List.take_append, List.take_of_length_le (by omega), h.1]
      exact k.2 _ (by rw [List.length_append] at hc; omega)
theorem Rds.nil {X : Type} (R : List Int → Except Int (X × List Int)) (x : X) (h : ∀ bs, R bs = .ok (x, bs)) : Rds R [] x := ⟨fun rest => h _, fun c hc => by simp at hc⟩
theorem rds_num (x : Nat) (h : x < 2 ^ 64) : Rds (unum 0 0) (Wm.uform 9 x) x := ⟨fun rest => unum_form x rest h, fun c hc => unum_begin 9 0 0 x c (Fits.start x h) (by rw [Wm.uform_length] at hc; exact hc)⟩
theorem rds_most (most : Int) (x : Nat) (h : x < 2 ^ 64) (hm : (x : Int) ≤ most) : Rds (unumMost most) (Wm.uform 9 x) x := ⟨fun rest => unumMost_back most x rest h hm, fun c hc => by
  unfold unumMost
  rw [(rds_num x h).2 c hc]⟩
/-- One field. -/
theorem rds_field {k : Nat} {y : Int} {x : Nat} (hx : x < 2 ^ 64) (he : fX k x = y) (hz : y ≠ 0) (hf : fB k y = true) : Rds (rdF k) (Wm.uform 9 x) y := by
  refine ⟨fun rest => ?_, fun c hc => ?_⟩
  · unfold rdF
    rw [(rds_num x hx).1 rest]
    dsimp only
    rw [he, if_neg hz, if_pos hf]
  · unfold rdF
    rw [(rds_num x hx).2 c hc]
def stp (fl : Int) (k : Nat) (q : Q4) (bs : List Int) : Except Int (Q4 × List Int) :=
  if btB fl k = true then (match rdF k bs with | .error e => .error e | .ok (x, t) => .ok (q.put k x, t)) else .ok (q, bs)
theorem rdG_thn (fl : Int) (n k : Nat) (hk : k = 3 - n) (q : Q4) (bs : List Int) : rdG fl (n + 1) q bs = thn (stp fl k q bs) (fun z t => rdG fl n z t) := by
  subst hk
  unfold stp
  rw [rdG]
  split
  · cases rdF (3 - n) bs with
    | error e => rfl
    | ok p => rfl
  · rfl
theorem rdL_thn (n : Nat) (l : List Sp) (bs : List Int) : rdL (n + 1) l bs = thn (rdS bs) (fun q t => rdL n (l ++ [spQ q]) t) := by
  rw [rdL]
  cases rdS bs with
  | error e => rfl
  | ok p => rfl
theorem rdM_thn (n : Nat) (f : List (List Sp)) (bs : List Int) : rdM (n + 1) f bs = thn (rdF1 bs) (fun l t => rdM n (f ++ [l]) t) := by
  rw [rdM]
  cases rdF1 bs with
  | error e => rfl
  | ok p => rfl
theorem rdF1_thn (bs : List Int) : rdF1 bs = thn (unumMost 2000 bs) (fun n t => rdL n [] t) := by
  unfold rdF1
  cases unumMost 2000 bs with
  | error e => rfl
  | ok p => rfl
theorem rds_stp {fl : Int} {k : Nat} {q : Q4} {y : Int} {F : List Int} (hb : btB fl k = !(decide (y = 0))) (h0 : y = 0 → F = [] ∧ q.put k 0 = q) (h1 : y ≠ 0 → Rds (rdF k) F y) : Rds (stp fl k q) F (q.put k y) := by
  by_cases hy : y = 0
  · subst hy
    obtain ⟨e1, e2⟩ := h0 rfl
    rw [e1, e2]
    refine Rds.nil _ _ (fun bs => ?_)
    unfold stp
    rw [if_neg (by rw [hb]; simp)]
  · have hr := h1 hy
    have hbt : btB fl k = true := by rw [hb]; simp [hy]
    refine ⟨fun rest => ?_, fun c hc => ?_⟩
    · unfold stp; rw [if_pos hbt, hr.1 rest]
    · unfold stp; rw [if_pos hbt, hr.2 c hc]
theorem fl_bits (c a b k : Int) : (∀ j, j < 4 → btB (flP c a b k 4) j = !(decide ((if j = 0 then c else if j = 1 then a else if j = 2 then b else k) = 0))) ∧ 0 ≤ flP c a b k 4 ∧ flP c a b k 4 < 16 := by
  refine ⟨fun j hj => ?_, ?_⟩
  · obtain rfl | rfl | rfl | rfl : j = 0 ∨ j = 1 ∨ j = 2 ∨ j = 3 := by omega
    all_goals
      by_cases hc : c = 0 <;> by_cases ha : a = 0 <;> by_cases hb : b = 0 <;> by_cases hk : k = 0 <;> simp only [flP, hc, ha, hb, hk, ↓reduceIte, if_pos, if_neg, not_false_eq_true] <;> first | rfl | (simp [hc, ha, hb, hk] <;> rfl)
  · simp only [flP]
    by_cases hc : c = 0 <;> by_cases ha : a = 0 <;> by_cases hb : b = 0 <;> by_cases hk : k = 0 <;> simp [hc, ha, hb, hk]
theorem rds_spot {s : Sp} (hok : okS s) (htk : tkB s = true) : Rds rdS (encS s) ⟨s.c, s.a, s.b, s.k⟩ := by
  obtain ⟨c, a, b, k⟩ := s
  have ht := tkB_ok htk
  unfold okS at hok
  dsimp only at ht hok ⊢
  obtain ⟨hbit, hf0, hf1⟩ := fl_bits c a b k
  obtain ⟨fl, hfl⟩ : ∃ fl, flP c a b k 4 = fl := ⟨_, rfl⟩
  rw [hfl] at hbit hf0 hf1
  have b0 := hbit 0 (by omega)
  have b1 := hbit 1 (by omega)
  have b2 := hbit 2 (by omega)
  have b3 := hbit 3 (by omega)
  have b0 : btB fl 0 = !(decide (c = 0)) := b0
  have b1 : btB fl 1 = !(decide (a = 0)) := b1
  have b2 : btB fl 2 = !(decide (b = 0)) := b2
  have b3 : btB fl 3 = !(decide (k = 0)) := b3
  have r0 : Rds (stp fl 0 q4Z) (fdE c false) (q4Z.put 0 c) := rds_stp b0 (fun e => ⟨by unfold fdE; rw [if_pos e], rfl⟩) (fun e => by
    unfold fdE; rw [if_neg e, if_neg (by decide)]
    refine rds_field (by omega) ?_ e ?_
    · unfold fX; rw [if_neg (by omega), IntKind.wrap_i64]; omega
    · unfold fB; rw [if_pos rfl]; exact decide_eq_true (by omega))
  have r1 : Rds (stp fl 1 ⟨c, 0, 0, 0⟩) (fdE a false) ⟨c, a, 0, 0⟩ := rds_stp (q := ⟨c, 0, 0, 0⟩) (k := 1) (y := a) b1 (fun e => ⟨by unfold fdE; rw [if_pos e], rfl⟩) (fun e => by
    unfold fdE; rw [if_neg e, if_neg (by decide)]
    refine rds_field (by omega) ?_ e ?_
    · unfold fX; rw [if_neg (by omega), IntKind.wrap_i64]; omega
    · unfold fB; rw [if_neg (by omega), if_neg (by omega)]; exact decide_eq_true (by omega))
  have r2 : Rds (stp fl 2 ⟨c, a, 0, 0⟩) (fdE b false) ⟨c, a, b, 0⟩ := rds_stp (q := ⟨c, a, 0, 0⟩) (k := 2) (y := b) b2 (fun e => ⟨by unfold fdE; rw [if_pos e], rfl⟩) (fun e => by
    unfold fdE; rw [if_neg e, if_neg (by decide)]
    refine rds_field (by omega) ?_ e ?_
    · unfold fX; rw [if_neg (by omega), IntKind.wrap_i64]; omega
    · unfold fB; rw [if_neg (by omega), if_neg (by omega)]; exact decide_eq_true (by omega))
  have r3 : Rds (stp fl 3 ⟨c, a, b, 0⟩) (fdE k true) ⟨c, a, b, k⟩ := rds_stp (q := ⟨c, a, b, 0⟩) (k := 3) (y := k) b3 (fun e => ⟨by unfold fdE; rw [if_pos e], rfl⟩) (fun e => by
    have hbd := foldI_bd k (by omega) (by omega)
    unfold fdE; rw [if_neg e, if_pos rfl]
    refine rds_field (by omega) ?_ e ?_
    · unfold fX; rw [if_pos rfl]; exact unfold_fold k
    · unfold fB; rw [if_neg (by omega), if_pos rfl]; exact decide_eq_true (by omega))
  have g1 := Rds.seq (K := fun z t => rdG fl 0 z t) (Q := rdG fl 1 ⟨c, a, b, 0⟩) (fun bs => rdG_thn fl 0 3 rfl _ bs) r3 (Rds.nil _ _ (fun _ => rfl))
  have g2 := Rds.seq (K := fun z t => rdG fl 1 z t) (Q := rdG fl 2 ⟨c, a, 0, 0⟩) (fun bs => rdG_thn fl 1 2 rfl _ bs) r2 g1
  have g3 := Rds.seq (K := fun z t => rdG fl 2 z t) (Q := rdG fl 3 ⟨c, 0, 0, 0⟩) (fun bs => rdG_thn fl 2 1 rfl _ bs) r1 g2
  have g4 := Rds.seq (K := fun z t => rdG fl 3 z t) (Q := rdG fl 4 q4Z) (fun bs => rdG_thn fl 3 0 rfl _ bs) r0 g3
  have e : encS ⟨c, a, b, k⟩ = fl :: (fdE c false ++ (fdE a false ++ (fdE b false ++ (fdE k true ++ [])))) := by
    show prt c a b k 4 = _
    simp only [prt, hfl]
    simp
  rw [e]
  refine ⟨fun rest => ?_, fun n hn => ?_⟩
  · show (if 16 ≤ fl then .error 4 else rdG fl 4 q4Z _) = _
    rw [if_neg (by omega)]
    exact g4.1 rest
  · cases n with
    | zero => rfl
    | succ n =>
      rw [List.take_succ_cons]
      show (if 16 ≤ fl then .error 4 else rdG fl 4 q4Z _) = _
      rw [if_neg (by omega)]
      exact g4.2 n (by simpa using hn)
theorem spQ_id {s : Sp} (hok : okS s) : spQ ⟨s.c, s.a, s.b, s.k⟩ = s := by
  obtain ⟨c, a, b, k⟩ := s
  unfold okS at hok
  dsimp only at hok
  unfold spQ
  dsimp only
  rw [IntKind.wrap_u16, IntKind.wrap_u16, Int.emod_eq_of_lt hok.2.1.1 hok.2.1.2, Int.emod_eq_of_lt hok.2.2.1.1 hok.2.2.1.2]
theorem rds_list : ∀ (l l0 : List Sp), (∀ s ∈ l, okS s ∧ tkB s = true) → Rds (rdL l.length l0) (l.flatMap encS) (l0 ++ l)
  | [], l0, _ => by
    rw [List.append_nil]
    exact Rds.nil _ _ (fun _ => rfl)
  | s :: r, l0, h => by
    obtain ⟨h1, h2⟩ := h s (by simp)
    have ih := rds_list r (l0 ++ [s]) (fun x hx => h x (by simp [hx]))
    rw [List.append_assoc] at ih
    rw [List.flatMap_cons]
    refine Rds.seq (R := rdS) (K := fun q t => rdL r.length (l0 ++ [spQ q]) t) (fun bs => rdL_thn _ _ _) (rds_spot h1 h2) ?_
    show Rds (fun t => rdL r.length (l0 ++ [spQ _]) t) _ _
    rw [spQ_id h1]
    exact ih
theorem rds_func {l : List Sp} (hl : l.length ≤ 2000) (h : ∀ s ∈ l, okS s ∧ tkB s = true) : Rds rdF1 (encL l) l := by
  unfold encL
  refine Rds.seq (R := unumMost 2000) (K := fun n t => rdL n [] t) rdF1_thn (rds_most 2000 l.length (by omega) (by omega)) ?_
  exact rds_list l [] h
theorem rds_funcs : ∀ (f f0 : List (List Sp)), (∀ l ∈ f, l.length ≤ 2000 ∧ ∀ s ∈ l, okS s ∧ tkB s = true) → Rds (rdM f.length f0) (f.flatMap encL) (f0 ++ f)
  | [], f0, _ => by
    rw [List.append_nil]
    exact Rds.nil _ _ (fun _ => rfl)
  | l :: r, f0, h => by
    obtain ⟨h1, h2⟩ := h l (by simp)
    have ih := rds_funcs r (f0 ++ [l]) (fun x hx => h x (by simp [hx]))
    rw [List.append_assoc] at ih
    rw [List.flatMap_cons]
    exact Rds.seq (R := rdF1) (K := fun x t => rdM r.length (f0 ++ [x]) t) (fun bs => rdM_thn _ _ _) (rds_func h1 h2) ih
def decQ (bs : List Int) : Except Int (List (List Sp) × List Int) := thn (unumMost 128 bs) (fun n t => rdM n [] t)
theorem decT_q (bs : List Int) : decT bs = match decQ bs with | .error k => .error k | .ok (f, t') => if t'.length = 0 then .ok f else .error 3 := by
  unfold decT decQ
  cases unumMost 128 bs with
  | error k => rfl
  | ok p => rfl
/-- What ckE lets through is read back; a beginning is too short; a byte more is too long. -/
theorem back {f : List (List Sp)} (hK : OkF f) (hc : ckE f = 0) : decP (encP f) = .ok f ∧ (∀ n, n < (encP f).length → decP ((encP f).take n) = .error 2) ∧ decP (encP f ++ [0]) = .error 3 := by
  obtain ⟨h1, h2, h3⟩ := ck0 hc
  have hr : Rds decQ (Wm.uform 9 f.length ++ f.flatMap encL) f := by
    refine Rds.seq (R := unumMost 128) (K := fun n t => rdM n [] t) (fun bs => rfl) (rds_most 128 f.length (by omega) (by omega)) ?_
    exact rds_funcs f [] (fun l hl => ⟨h2 l hl, fun s hs => ⟨hK l hl s hs, h3 l hl s hs⟩⟩)
  have e : encP f = 80 :: 84 :: 70 :: 1 :: (Wm.uform 9 f.length ++ f.flatMap encL) := by simp [encP, sgn4]
  rw [e]
  obtain ⟨F, hF⟩ : ∃ F, Wm.uform 9 f.length ++ f.flatMap encL = F := ⟨_, rfl⟩
  rw [hF] at hr ⊢
  have hd : ∀ G : List Int, decP (80 :: 84 :: 70 :: 1 :: G) = decT G := fun G => by
    unfold decP
    rw [if_neg (by simp), if_pos (show List.take 4 (80 :: 84 :: 70 :: 1 :: G) = sgn4 from rfl)]
    rfl
  refine ⟨?_, fun n hn => ?_, ?_⟩
  · rw [hd, decT_q]
    have := hr.1 []
    rw [List.append_nil] at this
    rw [this]
    rfl
  · by_cases q : n < 4
    · unfold decP
      rw [if_pos (by rw [List.length_take]; omega)]
    · obtain ⟨m, rfl⟩ : ∃ m, n = m + 4 := ⟨n - 4, by omega⟩
      have et : (80 :: 84 :: 70 :: 1 :: F).take (m + 4) = 80 :: 84 :: 70 :: 1 :: F.take m := rfl
      rw [et, hd, decT_q, hr.2 m (by simp at hn; omega)]
  · show decP (80 :: 84 :: 70 :: 1 :: (F ++ [0])) = _
    rw [hd, decT_q, hr.1 [0]]
    rfl
theorem encP_bok {f : List (List Sp)} (hK : OkF f) (hc : ckE f = 0) : True := trivial
end Go.Proofs.Ytaldacjeeccbhaa
