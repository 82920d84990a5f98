/-
  Bytes that are read as a profile are its form. (No Go in sight.)
-/
import Derived.Test.YtclcebdcdbcpjaaGreatOneMath
import Derived.Test.YtclcebdcdbcpjaaGreatD4
import Derived.Laws.BitsAllLaws
import Derived.Laws.BitsLemmas
namespace Go.Proofs.YtclcebdcdbcpjaaGreat
open Go.RowKit

theorem unfold_fold (n : Int) : unfoldI (foldI n).toNat = n := by
  unfold foldI unfoldI
  split <;> split <;> omega

theorem take_app (a b : List Int) (n : Nat) (h : a.length = n) : (a ++ b).take n = a := by subst h; simp
theorem drop_app (a b : List Int) (n : Nat) (h : a.length = n) : (a ++ b).drop n = b := by subst h; simp

theorem unumMost_back (most : Int) (x : Nat) (rest : List Int) (hx : x < 2 ^ 64) (hm : (x : Int) ≤ most) : unumMost most (Wm.uform 9 x ++ rest) = .ok (x, rest) := by
  unfold unumMost
  rw [unum_form x rest hx]
  dsimp only
  rw [if_neg (by omega)]

theorem rres_ok (zero u : Value) (bs t : List Int) : rres zero (.ok (u, t)) bs 0 = (u, t, 0) := rfl

set_option linter.unusedVariables false
set_option linter.unusedSimpArgs false
/-- A form is read as x; of a proper beginning it is said that it is too short. -/
def Rds {X : Type} (R : List Int → Except Int (X × List Int)) (F : List Int) (x : X) : Prop :=
  (∀ rest, R (F ++ rest) = .ok (x, rest)) ∧ ∀ c, c < F.length → R (F.take c) = .error 2
def thn {X Y : Type} (o : Except Int (X × List Int)) (K : X → List Int → Except Int (Y × List Int)) : Except Int (Y × List Int) := match o with | .error e => .error e | .ok (z, t) => K z t
theorem Rds.seq {X Y : Type} {R : List Int → Except Int (X × List Int)} {K : X → List Int → Except Int (Y × List Int)} {Q : List Int → Except Int (Y × List Int)} {F G : List Int} {x : X} {y : Y} (hQ : ∀ bs, Q bs = thn (R bs) K) (h : Rds R F x) (k : Rds (K x) G y) : Rds Q (F ++ G) y := by
  refine ⟨fun rest => ?_, fun c hc => ?_⟩
  · rw [hQ, List.append_assoc, h.1]
    exact k.1 rest
  · rw [hQ]
    by_cases q : c < F.length
    · rw [List.take_append_of_le_length (by omega), h.2 c q]
      rfl
    · rw [List.take_append, List.take_of_length_le (by omega), h.1]
      exact k.2 _ (by rw [List.length_append] at hc; omega)
theorem Rds.nil {X : Type} (R : List Int → Except Int (X × List Int)) (x : X) (h : ∀ bs, R bs = .ok (x, bs)) : Rds R [] x := ⟨fun rest => h _, fun c hc => by simp at hc⟩
theorem rds_num (x : Nat) (h : x < 2 ^ 64) : Rds (unum 0 0) (Wm.uform 9 x) x := ⟨fun rest => unum_form x rest h, fun c hc => unum_begin 9 0 0 x c (Fits.start x h) (by rw [Wm.uform_length] at hc; exact hc)⟩
theorem rds_most (most : Int) (x : Nat) (h : x < 2 ^ 64) (hm : (x : Int) ≤ most) : Rds (unumMost most) (Wm.uform 9 x) x := ⟨fun rest => unumMost_back most x rest h hm, fun c hc => by
  unfold unumMost
  rw [(rds_num x h).2 c hc]⟩
/-- One field. -/
theorem rds_field {k : Nat} {y : Int} {x : Nat} (hx : x < 2 ^ 64) (he : fX k x = y) (hz : y ≠ 0) (hf : fB k y = true) : Rds (rdF k) (Wm.uform 9 x) y := by
  refine ⟨fun rest => ?_, fun c hc => ?_⟩
  · unfold rdF
    rw [(rds_num x hx).1 rest]
    dsimp only
    rw [he, if_neg hz, if_pos hf]
  · unfold rdF
    rw [(rds_num x hx).2 c hc]
def stp (fl : Int) (k : Nat) (q : Q4) (bs : List Int) : Except Int (Q4 × List Int) :=
  if btB fl k = true then (match rdF k bs with | .error e => .error e | .ok (x, t) => .ok (q.put k x, t)) else .ok (q, bs)
theorem rdG_thn (fl : Int) (n k : Nat) (hk : k = 3 - n) (q : Q4) (bs : List Int) : rdG fl (n + 1) q bs = thn (stp fl k q bs) (fun z t => rdG fl n z t) := by
  subst hk
  unfold stp
  rw [rdG]
  split
  · cases rdF (3 - n) bs with
    | error e => rfl
    | ok p => rfl
  · rfl
theorem rdL_thn (n : Nat) (l : List Sp) (bs : List Int) : rdL (n + 1) l bs = thn (rdS bs) (fun q t => rdL n (l ++ [spQ q]) t) := by
  rw [rdL]
  cases rdS bs with
  | error e => rfl
  | ok p => rfl
theorem rdM_thn (n : Nat) (f : List (List Sp)) (bs : List Int) : rdM (n + 1) f bs = thn (rdF1 bs) (fun l t => rdM n (f ++ [l]) t) := by
  rw [rdM]
  cases rdF1 bs with
  | error e => rfl
  | ok p => rfl
theorem rdF1_thn (bs : List Int) : rdF1 bs = thn (unumMost 2000 bs) (fun n t => rdL n [] t) := by
  unfold rdF1
  cases unumMost 2000 bs with
  | error e => rfl
  | ok p => rfl
theorem rds_stp {fl : Int} {k : Nat} {q : Q4} {y : Int} {F : List Int} (hb : btB fl k = !(decide (y = 0))) (h0 : y = 0 → F = [] ∧ q.put k 0 = q) (h1 : y ≠ 0 → Rds (rdF k) F y) : Rds (stp fl k q) F (q.put k y) := by
  by_cases hy : y = 0
  · subst hy
    obtain ⟨e1, e2⟩ := h0 rfl
    rw [e1, e2]
    refine Rds.nil _ _ (fun bs => ?_)
    unfold stp
    rw [if_neg (by rw [hb]; simp)]
  · have hr := h1 hy
    have hbt : btB fl k = true := by rw [hb]; simp [hy]
    refine ⟨fun rest => ?_, fun c hc => ?_⟩
    · unfold stp; rw [if_pos hbt, hr.1 rest]
    · unfold stp; rw [if_pos hbt, hr.2 c hc]
theorem fl_bits (c a b k : Int) : (∀ j, j < 4 → btB (flP c a b k 4) j = !(decide ((if j = 0 then c else if j = 1 then a else if j = 2 then b else k) = 0))) ∧ 0 ≤ flP c a b k 4 ∧ flP c a b k 4 < 16 := by
  refine ⟨fun j hj => ?_, ?_⟩
  · obtain rfl | rfl | rfl | rfl : j = 0 ∨ j = 1 ∨ j = 2 ∨ j = 3 := by omega
    all_goals
      by_cases hc : c = 0 <;> by_cases ha : a = 0 <;> by_cases hb : b = 0 <;> by_cases hk : k = 0 <;> simp only [flP, hc, ha, hb, hk, ↓reduceIte, if_pos, if_neg, not_false_eq_true] <;> first | rfl | (simp [hc, ha, hb, hk] <;> rfl)
  · simp only [flP]
    by_cases hc : c = 0 <;> by_cases ha : a = 0 <;> by_cases hb : b = 0 <;> by_cases hk : k = 0 <;> simp [hc, ha, hb, hk]
theorem rds_spot {s : Sp} (hok : okS s) (htk : tkB s = true) : Rds rdS (encS s) ⟨s.c, s.a, s.b, s.k⟩ := by
  obtain ⟨c, a, b, k⟩ := s
  have ht := tkB_ok htk
  unfold okS at hok
  dsimp only at ht hok ⊢
  obtain ⟨hbit, hf0, hf1⟩ := fl_bits c a b k
  obtain ⟨fl, hfl⟩ : ∃ fl, flP c a b k 4 = fl := ⟨_, rfl⟩
  rw [hfl] at hbit hf0 hf1
  have b0 := hbit 0 (by omega)
  have b1 := hbit 1 (by omega)
  have b2 := hbit 2 (by omega)
  have b3 := hbit 3 (by omega)
  have b0 : btB fl 0 = !(decide (c = 0)) := b0
  have b1 : btB fl 1 = !(decide (a = 0)) := b1
  have b2 : btB fl 2 = !(decide (b = 0)) := b2
  have b3 : btB fl 3 = !(decide (k = 0)) := b3
  have r0 : Rds (stp fl 0 q4Z) (fdE c false) (q4Z.put 0 c) := rds_stp b0 (fun e => ⟨by unfold fdE; rw [if_pos e], rfl⟩) (fun e => by
    unfold fdE; rw [if_neg e, if_neg (by decide)]
    refine rds_field (by omega) ?_ e ?_
    · unfold fX; rw [if_neg (by omega), IntKind.wrap_i64]; omega
    · unfold fB; rw [if_pos rfl]; exact decide_eq_true (by omega))
  have r1 : Rds (stp fl 1 ⟨c, 0, 0, 0⟩) (fdE a false) ⟨c, a, 0, 0⟩ := rds_stp (q := ⟨c, 0, 0, 0⟩) (k := 1) (y := a) b1 (fun e => ⟨by unfold fdE; rw [if_pos e], rfl⟩) (fun e => by
    unfold fdE; rw [if_neg e, if_neg (by decide)]
    refine rds_field (by omega) ?_ e ?_
    · unfold fX; rw [if_neg (by omega), IntKind.wrap_i64]; omega
    · unfold fB; rw [if_neg (by omega), if_neg (by omega)]; exact decide_eq_true (by omega))
  have r2 : Rds (stp fl 2 ⟨c, a, 0, 0⟩) (fdE b false) ⟨c, a, b, 0⟩ := rds_stp (q := ⟨c, a, 0, 0⟩) (k := 2) (y := b) b2 (fun e => ⟨by unfold fdE; rw [if_pos e], rfl⟩) (fun e => by
    unfold fdE; rw [if_neg e, if_neg (by decide)]
    refine rds_field (by omega) ?_ e ?_
    · unfold fX; rw [if_neg (by omega), IntKind.wrap_i64]; omega
    · unfold fB; rw [if_neg (by omega), if_neg (by omega)]; exact decide_eq_true (by omega))
  have r3 : Rds (stp fl 3 ⟨c, a, b, 0⟩) (fdE k true) ⟨c, a, b, k⟩ := rds_stp (q := ⟨c, a, b, 0⟩) (k := 3) (y := k) b3 (fun e => ⟨by unfold fdE; rw [if_pos e], rfl⟩) (fun e => by
    have hbd := foldI_bd k (by omega) (by omega)
    unfold fdE; rw [if_neg e, if_pos rfl]
    refine rds_field (by omega) ?_ e ?_
    · unfold fX; rw [if_pos rfl]; exact unfold_fold k
    · unfold fB; rw [if_neg (by omega), if_pos rfl]; exact decide_eq_true (by omega))
  have g1 := Rds.seq (K := fun z t => rdG fl 0 z t) (Q := rdG fl 1 ⟨c, a, b, 0⟩) (fun bs => rdG_thn fl 0 3 rfl _ bs) r3 (Rds.nil _ _ (fun _ => rfl))
  have g2 := Rds.seq (K := fun z t => rdG fl 1 z t) (Q := rdG fl 2 ⟨c, a, 0, 0⟩) (fun bs => rdG_thn fl 1 2 rfl _ bs) r2 g1
  have g3 := Rds.seq (K := fun z t => rdG fl 2 z t) (Q := rdG fl 3 ⟨c, 0, 0, 0⟩) (fun bs => rdG_thn fl 2 1 rfl _ bs) r1 g2
  have g4 := Rds.seq (K := fun z t => rdG fl 3 z t) (Q := rdG fl 4 q4Z) (fun bs => rdG_thn fl 3 0 rfl _ bs) r0 g3
  have e : encS ⟨c, a, b, k⟩ = fl :: (fdE c false ++ (fdE a false ++ (fdE b false ++ (fdE k true ++ [])))) := by
    show prt c a b k 4 = _
    simp only [prt, hfl]
    simp
  rw [e]
  refine ⟨fun rest => ?_, fun n hn => ?_⟩
  · show (if 16 ≤ fl then .error 4 else rdG fl 4 q4Z _) = _
    rw [if_neg (by omega)]
    exact g4.1 rest
  · cases n with
    | zero => rfl
    | succ n =>
      rw [List.take_succ_cons]
      show (if 16 ≤ fl then .error 4 else rdG fl 4 q4Z _) = _
      rw [if_neg (by omega)]
      exact g4.2 n (by simpa using hn)
theorem spQ_id {s : Sp} (hok : okS s) : spQ ⟨s.c, s.a, s.b, s.k⟩ = s := by
  obtain ⟨c, a, b, k⟩ := s
  unfold okS at hok
  dsimp only at hok
  unfold spQ
  dsimp only
  rw [IntKind.wrap_u16, IntKind.wrap_u16, Int.emod_eq_of_lt hok.2.1.1 hok.2.1.2, Int.emod_eq_of_lt hok.2.2.1.1 hok.2.2.1.2]
theorem rds_list : ∀ (l l0 : List Sp), (∀ s ∈ l, okS s ∧ tkB s = true) → Rds (rdL l.length l0) (l.flatMap encS) (l0 ++ l)
  | [], l0, _ => by
    rw [List.append_nil]
    exact Rds.nil _ _ (fun _ => rfl)
  | s :: r, l0, h => by
    obtain ⟨h1, h2⟩ := h s (by simp)
    have ih := rds_list r (l0 ++ [s]) (fun x hx => h x (by simp [hx]))
    rw [List.append_assoc] at ih
    rw [List.flatMap_cons]
    refine Rds.seq (R := rdS) (K := fun q t => rdL r.length (l0 ++ [spQ q]) t) (fun bs => rdL_thn _ _ _) (rds_spot h1 h2) ?_
    show Rds (fun t => rdL r.length (l0 ++ [spQ _]) t) _ _
    rw [spQ_id h1]
    exact ih
theorem rds_func {l : List Sp} (hl : l.length ≤ 2000) (h : ∀ s ∈ l, okS s ∧ tkB s = true) : Rds rdF1 (encL l) l := by
  unfold encL
  refine Rds.seq (R := unumMost 2000) (K := fun n t => rdL n [] t) rdF1_thn (rds_most 2000 l.length (by omega) (by omega)) ?_
  exact rds_list l [] h
theorem rds_funcs : ∀ (f f0 : List (List Sp)), (∀ l ∈ f, l.length ≤ 2000 ∧ ∀ s ∈ l, okS s ∧ tkB s = true) → Rds (rdM f.length f0) (f.flatMap encL) (f0 ++ f)
  | [], f0, _ => by
    rw [List.append_nil]
    exact Rds.nil _ _ (fun _ => rfl)
  | l :: r, f0, h => by
    obtain ⟨h1, h2⟩ := h l (by simp)
    have ih := rds_funcs r (f0 ++ [l]) (fun x hx => h x (by simp [hx]))
    rw [List.append_assoc] at ih
    rw [List.flatMap_cons]
    exact Rds.seq (R := rdF1) (K := fun x t => rdM r.length (f0 ++ [x]) t) (fun bs => rdM_thn _ _ _) (rds_func h1 h2) ih
def decQ (bs : List Int) : Except Int (List (List Sp) × List Int) := thn (unumMost 128 bs) (fun n t => rdM n [] t)
theorem decT_q (bs : List Int) : decT bs = match decQ bs with | .error k => .error k | .ok (f, t') => if t'.length = 0 then .ok f else .error 3 := by
  unfold decT decQ
  cases unumMost 128 bs with
  | error k => rfl
  | ok p => rfl
/-- What ckE lets through is read back; a beginning is too short; a byte more is too long. -/
theorem back {f : List (List Sp)} (hK : OkF f) (hc : ckE f = 0) : decP (encP f) = .ok f ∧ (∀ n, n < (encP f).length → decP ((encP f).take n) = .error 2) ∧ decP (encP f ++ [0]) = .error 3 := by
  obtain ⟨h1, h2, h3⟩ := ck0 hc
  have hr : Rds decQ (Wm.uform 9 f.length ++ f.flatMap encL) f := by
    refine Rds.seq (R := unumMost 128) (K := fun n t => rdM n [] t) (fun bs => rfl) (rds_most 128 f.length (by omega) (by omega)) ?_
    exact rds_funcs f [] (fun l hl => ⟨h2 l hl, fun s hs => ⟨hK l hl s hs, h3 l hl s hs⟩⟩)
  have e : encP f = 80 :: 84 :: 70 :: 1 :: (Wm.uform 9 f.length ++ f.flatMap encL) := by simp [encP, sgn4]
  rw [e]
  obtain ⟨F, hF⟩ : ∃ F, Wm.uform 9 f.length ++ f.flatMap encL = F := ⟨_, rfl⟩
  rw [hF] at hr ⊢
  have hd : ∀ G : List Int, decP (80 :: 84 :: 70 :: 1 :: G) = decT G := fun G => by
    unfold decP
    rw [if_neg (by simp), if_pos (show List.take 4 (80 :: 84 :: 70 :: 1 :: G) = sgn4 from rfl)]
    rfl
  refine ⟨?_, fun n hn => ?_, ?_⟩
  · rw [hd, decT_q]
    have := hr.1 []
    rw [List.append_nil] at this
    rw [this]
    rfl
  · by_cases q : n < 4
    · unfold decP
      rw [if_pos (by rw [List.length_take]; omega)]
    · obtain ⟨m, rfl⟩ : ∃ m, n = m + 4 := ⟨n - 4, by omega⟩
      have et : (80 :: 84 :: 70 :: 1 :: F).take (m + 4) = 80 :: 84 :: 70 :: 1 :: F.take m := rfl
      rw [et, hd, decT_q, hr.2 m (by simp at hn; omega)]
  · show decP (80 :: 84 :: 70 :: 1 :: (F ++ [0])) = _
    rw [hd, decT_q, hr.1 [0]]
    rfl
theorem encP_bok {f : List (List Sp)} (hK : OkF f) (hc : ckE f = 0) : True := trivial

set_option linter.unusedVariables false
set_option linter.unusedSimpArgs false
/-- One field that is read has one form. -/
theorem rdF_one {k : Nat} (hk : k < 4) {bs t : List Int} {x : Int} (h : BOk bs) (e : rdF k bs = .ok (x, t)) : x ≠ 0 ∧ fB k x = true ∧ fdE x (decide (k = 3)) ++ t = bs ∧ BOk t := by
  unfold rdF at e
  cases hu : unum 0 0 bs with
  | error k => rw [hu] at e; cases e
  | ok p =>
    obtain ⟨y, t'⟩ := p
    rw [hu] at e
    dsimp only at e
    obtain ⟨h1, h2⟩ := unum_lt 0 0 bs _ _ (by omega) (by omega) h hu
    have h3 := unum_one bs y t' h hu
    by_cases hz : fX k y = 0
    · rw [if_pos hz] at e; cases e
    · rw [if_neg hz] at e
      by_cases hf : fB k (fX k y) = true
      · rw [if_pos hf] at e
        cases e
        refine ⟨hz, hf, ?_, h2⟩
        rw [← h3]
        congr 1
        unfold fdE
        rw [if_neg hz]
        by_cases h4 : k = 3
        · subst h4
          rw [if_pos (by rfl)]
          unfold fX
          rw [if_pos rfl, fold_unfold]
          rfl
        · rw [if_neg (by simpa using h4)]
          unfold fX at hf ⊢
          rw [if_neg h4, IntKind.wrap_i64] at hf ⊢
          have h5 : (0 : Int) ≤ ((y : Int) + 9223372036854775808) % 18446744073709551616 - 9223372036854775808 := by
            unfold fB at hf
            split at hf
            · exact (of_decide_eq_true hf).1
            · first | exact (of_decide_eq_true hf).1 | (rw [if_neg h4] at hf; exact (of_decide_eq_true hf).1)
          have h6 : (((y : Int) + 9223372036854775808) % 18446744073709551616 - 9223372036854775808).toNat = y := by omega
          rw [h6]
      · rw [if_neg hf] at e; cases e
theorem stp_one {fl : Int} {k : Nat} (hk : k < 4) {q q' : Q4} {bs t : List Int} (h : BOk bs) (e : stp fl k q bs = .ok (q', t)) : ∃ y, btB fl k = !(decide (y = 0)) ∧ fB k y = true ∧ q' = (if y = 0 then q else q.put k y) ∧ fdE y (decide (k = 3)) ++ t = bs ∧ BOk t := by
  unfold stp at e
  by_cases hb : btB fl k = true
  · rw [if_pos hb] at e
    cases hr : rdF k bs with
    | error k => rw [hr] at e; cases e
    | ok p =>
      obtain ⟨x, t'⟩ := p
      rw [hr] at e
      cases e
      obtain ⟨h1, h2, h3, h4⟩ := rdF_one hk h hr
      exact ⟨x, by rw [hb]; simp [h1], h2, by rw [if_neg h1], h3, h4⟩
  · rw [if_neg hb] at e
    cases e
    refine ⟨0, by simp at hb; rw [hb]; rfl, ?_, by rw [if_pos rfl], rfl, h⟩
    obtain rfl | rfl | rfl | rfl : k = 0 ∨ k = 1 ∨ k = 2 ∨ k = 3 := by omega
    all_goals rfl
theorem thn_ok {X Y : Type} {o : Except Int (X × List Int)} {K : X → List Int → Except Int (Y × List Int)} {y : Y} {t : List Int} (e : thn o K = .ok (y, t)) : ∃ z u, o = .ok (z, u) ∧ K z u = .ok (y, t) := by
  cases o with
  | error k => cases e
  | ok p => exact ⟨p.1, p.2, rfl, e⟩
/-- The flags are those of the numbers. -/
theorem flags_one {b : Int} (h0 : 0 ≤ b) (h1 : b < 16) {c a d k : Int} (b0 : btB b 0 = !(decide (c = 0))) (b1 : btB b 1 = !(decide (a = 0))) (b2 : btB b 2 = !(decide (d = 0))) (b3 : btB b 3 = !(decide (k = 0))) : flP c a d k 4 = b := by
  obtain rfl | rfl | rfl | rfl | rfl | rfl | rfl | rfl | rfl | rfl | rfl | rfl | rfl | rfl | rfl | rfl : b = 0 ∨ b = 1 ∨ b = 2 ∨ b = 3 ∨ b = 4 ∨ b = 5 ∨ b = 6 ∨ b = 7 ∨ b = 8 ∨ b = 9 ∨ b = 10 ∨ b = 11 ∨ b = 12 ∨ b = 13 ∨ b = 14 ∨ b = 15 := by omega
  all_goals
    have e0 : ∀ {u : Bool} {x : Int}, u = !(decide (x = 0)) → (u = true → x ≠ 0) ∧ (u = false → x = 0) := fun {u x} h => ⟨fun q e => by rw [q, e] at h; simp at h, fun q => by rw [q] at h; simpa using h.symm⟩
    have p0 := e0 b0
    have p1 := e0 b1
    have p2 := e0 b2
    have p3 := e0 b3
    simp only [flP]
    first | rw [if_pos (p0.2 rfl)] | rw [if_neg (p0.1 rfl)]
    first | rw [if_pos (p1.2 rfl)] | rw [if_neg (p1.1 rfl)]
    first | rw [if_pos (p2.2 rfl)] | rw [if_neg (p2.1 rfl)]
    first | rw [if_pos (p3.2 rfl)] | rw [if_neg (p3.1 rfl)]
    rfl
theorem put_q0 (y : Int) (q : Q4) (k : Nat) (h : q.put k 0 = q) : (if y = 0 then q else q.put k y) = q.put k y := by
  by_cases e : y = 0
  · rw [if_pos e, e, h]
  · rw [if_neg e]
theorem rdS_one {bs t : List Int} {q : Q4} (h : BOk bs) (e : rdS bs = .ok (q, t)) : okS (spQ q) ∧ tkB (spQ q) = true ∧ encS (spQ q) ++ t = bs ∧ BOk t := by
  cases bs with
  | nil => cases e
  | cons b r =>
    have e2 : (if 16 ≤ b then .error 4 else rdG b 4 q4Z r) = .ok (q, t) := e
    have hr : BOk r := fun x hx => h x (List.mem_cons_of_mem _ hx)
    have hb0 := (h b (by simp)).1
    by_cases h16 : 16 ≤ b
    · rw [if_pos h16] at e2; cases e2
    · rw [if_neg h16, rdG_thn b 3 0 rfl] at e2
      obtain ⟨q1, t1, s1, e3⟩ := thn_ok e2
      obtain ⟨c, c1, c2, c3, c4, c5⟩ := stp_one (by omega) hr s1
      rw [rdG_thn b 2 1 rfl] at e3
      obtain ⟨q2, t2, s2, e4⟩ := thn_ok e3
      obtain ⟨a, a1, a2, a3, a4, a5⟩ := stp_one (by omega) c5 s2
      rw [rdG_thn b 1 2 rfl] at e4
      obtain ⟨q3, t3, s3, e5⟩ := thn_ok e4
      obtain ⟨d, d1, d2, d3, d4, d5⟩ := stp_one (by omega) a5 s3
      rw [rdG_thn b 0 3 rfl] at e5
      obtain ⟨q4, t4, s4, e6⟩ := thn_ok e5
      obtain ⟨k, k1, k2, k3, k4, k5⟩ := stp_one (by omega) d5 s4
      have e7 : q4 = q ∧ t4 = t := by cases e6; exact ⟨rfl, rfl⟩
      rw [put_q0 c _ 0 rfl] at c3
      subst c3
      rw [put_q0 a _ 1 rfl] at a3
      subst a3
      rw [put_q0 d _ 2 rfl] at d3
      subst d3
      rw [put_q0 k _ 3 rfl] at k3
      subst k3
      obtain ⟨e8, e9⟩ := e7
      subst e8 e9
      have f0 := of_decide_eq_true (show decide (0 ≤ c ∧ c ≤ 9223372036854775807) = true from c2)
      have f1 := of_decide_eq_true (show decide (0 ≤ a ∧ a ≤ 1023) = true from a2)
      have f2 := of_decide_eq_true (show decide (0 ≤ d ∧ d ≤ 1023) = true from d2)
      have f3 := of_decide_eq_true (show decide (-1 ≤ k ∧ k ≤ 128) = true from k2)
      have hok : okS ⟨c, a, d, k⟩ := by unfold okS; dsimp only; omega
      have eq : spQ ((((q4Z.put 0 c).put 1 a).put 2 d).put 3 k) = ⟨c, a, d, k⟩ := spQ_id hok
      rw [eq]
      refine ⟨hok, by unfold tkB; exact decide_eq_true (by dsimp only; omega), ?_, k5⟩
      have hfl := flags_one hb0 (by omega) c1 a1 d1 k1
      show prt c a d k 4 ++ _ = _
      simp only [prt, hfl]
      rw [← c4, ← a4, ← d4, ← k4]
      simp
theorem rdL_one : ∀ (n : Nat) (l0 : List Sp) {l : List Sp} {bs t : List Int}, BOk bs → rdL n l0 bs = .ok (l, t) → ∃ m, l = l0 ++ m ∧ m.length = n ∧ (∀ s ∈ m, okS s ∧ tkB s = true) ∧ m.flatMap encS ++ t = bs ∧ BOk t
  | 0, l0, l, bs, t, h, e => by
    cases e
    exact ⟨[], by simp, rfl, fun s hs => by simp at hs, rfl, h⟩
  | n + 1, l0, l, bs, t, h, e => by
    rw [rdL_thn] at e
    obtain ⟨q, u, e1, e2⟩ := thn_ok e
    obtain ⟨h1, h2, h3, h4⟩ := rdS_one h e1
    obtain ⟨m, m1, m2, m3, m4, m5⟩ := rdL_one n _ h4 e2
    refine ⟨spQ q :: m, by rw [m1]; simp, by simp [m2], fun s hs => ?_, ?_, m5⟩
    · rcases List.mem_cons.1 hs with rfl | hs
      · exact ⟨h1, h2⟩
      · exact m3 s hs
    · rw [List.flatMap_cons, List.append_assoc, m4, h3]
theorem most_one {most : Int} (hm : 0 ≤ most) {bs t : List Int} {n : Nat} (h : BOk bs) (e : unumMost most bs = .ok (n, t)) : (n : Int) ≤ most ∧ Wm.uform 9 n ++ t = bs ∧ BOk t := by
  unfold unumMost at e
  cases hu : unum 0 0 bs with
  | error k => rw [hu] at e; cases e
  | ok p =>
    obtain ⟨y, t'⟩ := p
    rw [hu] at e
    dsimp only at e
    obtain ⟨h1, h2⟩ := unum_lt 0 0 bs _ _ (by omega) (by omega) h hu
    have h3 := unum_one bs y t' h hu
    by_cases hz : max most 0 < (y : Int)
    · rw [if_pos hz] at e; cases e
    · rw [if_neg hz] at e
      cases e
      exact ⟨by omega, h3, h2⟩
theorem rdF1_one {l : List Sp} {bs t : List Int} (h : BOk bs) (e : rdF1 bs = .ok (l, t)) : l.length ≤ 2000 ∧ (∀ s ∈ l, okS s ∧ tkB s = true) ∧ encL l ++ t = bs ∧ BOk t := by
  rw [rdF1_thn] at e
  obtain ⟨n, u, e1, e2⟩ := thn_ok e
  obtain ⟨h1, h2, h3⟩ := most_one (by omega) h e1
  obtain ⟨m, m1, m2, m3, m4, m5⟩ := rdL_one n [] h3 e2
  have m1' : l = m := by rw [m1]; rfl
  subst m1'
  refine ⟨by omega, m3, ?_, m5⟩
  unfold encL
  rw [List.append_assoc, m4, m2, h2]
theorem rdM_one : ∀ (n : Nat) (f0 : List (List Sp)) {f : List (List Sp)} {bs t : List Int}, BOk bs → rdM n f0 bs = .ok (f, t) → ∃ m, f = f0 ++ m ∧ m.length = n ∧ (∀ l ∈ m, l.length ≤ 2000 ∧ ∀ s ∈ l, okS s ∧ tkB s = true) ∧ m.flatMap encL ++ t = bs ∧ BOk t
  | 0, f0, f, bs, t, h, e => by
    cases e
    exact ⟨[], by simp, rfl, fun s hs => by simp at hs, rfl, h⟩
  | n + 1, f0, f, bs, t, h, e => by
    rw [rdM_thn] at e
    obtain ⟨l, u, e1, e2⟩ := thn_ok e
    obtain ⟨h1, h2, h3, h4⟩ := rdF1_one h e1
    obtain ⟨m, m1, m2, m3, m4, m5⟩ := rdM_one n _ h4 e2
    refine ⟨l :: m, by rw [m1]; simp, by simp [m2], fun s hs => ?_, ?_, m5⟩
    · rcases List.mem_cons.1 hs with rfl | hs
      · exact ⟨h1, h2⟩
      · exact m3 s hs
    · rw [List.flatMap_cons, List.append_assoc, m4, h3]
/-- Bytes that are read as a profile are its form, and Encode takes it. -/
theorem decP_one {bs : List Int} {f : List (List Sp)} (h : BOk bs) (e : decP bs = .ok f) : OkF f ∧ ckE f = 0 ∧ encP f = bs := by
  unfold decP at e
  by_cases h4 : bs.length < 4
  · rw [if_pos h4] at e; cases e
  · rw [if_neg h4] at e
    by_cases hs : bs.take 4 = sgn4
    · rw [if_pos hs, decT_q] at e
      have hd : BOk (bs.drop 4) := fun x hx => h x (List.mem_of_mem_drop hx)
      cases hq : decQ (bs.drop 4) with
      | error k => rw [hq] at e; cases e
      | ok p =>
        obtain ⟨f', t'⟩ := p
        rw [hq] at e
        dsimp only at e
        by_cases ht : t'.length = 0
        · rw [if_pos ht] at e
          cases e
          unfold decQ at hq
          obtain ⟨n, u, e1, e2⟩ := thn_ok hq
          obtain ⟨h1, h2, h3⟩ := most_one (by omega) hd e1
          obtain ⟨m, m1, m2, m3, m4, m5⟩ := rdM_one n [] h3 e2
          have m1' : f = m := by rw [m1]; rfl
          subst m1'
          have ht' : t' = [] := List.eq_nil_of_length_eq_zero ht
          subst ht'
          rw [List.append_nil] at m4
          refine ⟨fun l hl s hs => ((m3 l hl).2 s hs).1, ckE_ok ?_ ?_, ?_⟩
          · rintro (q | ⟨l, hl, q⟩)
            · omega
            · have := (m3 l hl).1; omega
          · rintro ⟨l, hl, s, hs, q⟩
            have := ((m3 l hl).2 s hs).2
            rw [q] at this; cases this
          · unfold encP
            rw [m4, m2, List.append_assoc, h2, ← hs, List.take_append_drop]
        · rw [if_neg ht] at e; cases e
    · rw [if_neg hs] at e; cases e
end Go.Proofs.YtclcebdcdbcpjaaGreat
