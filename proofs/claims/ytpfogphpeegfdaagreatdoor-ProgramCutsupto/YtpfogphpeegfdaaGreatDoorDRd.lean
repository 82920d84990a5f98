/-
  A reader's calls, told by its state: the bytes that are left, and its error.
-/
import Derived.Test.YtpfogphpeegfdaaGreatDoorNext
import Derived.Test.YtpfogphpeegfdaaGreatDoorRText
namespace Go.Proofs.YtpfogphpeegfdaaGreatDoor
open Go.RowKit
set_option linter.unusedVariables false

/-- A list of instructions, out of bytes. -/
def decG : Nat → List (Int × Int) → List Int → Except Int (List (Int × Int))
  | 0, acc, _ => .ok acc
  | f + 1, acc, [] => .ok acc
  | f + 1, acc, b :: t => if acc.length = 2000 then .error 5 else match rd1 b t with
    | .error e => .error e
    | .ok (p, t') => decG f (acc ++ [p]) t'
def dec (B : List Int) : Except Int (List (Int × Int)) := decG (B.length + 1) [] B
def errOf (o : Except Int (List (Int × Int))) : Int := match o with | .ok _ => 0 | .error e => e
def lstOf (o : Except Int (List (Int × Int))) : List (Int × Int) := match o with | .ok l => l | .error _ => []

theorem opR_ok {k : Nat} {t t' : List Int} {a : Int} (hB : BOk t) (h : opR k t = .ok (a, t')) : BOk t' ∧ t'.length ≤ t.length := by
  unfold opR at h
  split at h
  · cases h; exact ⟨hB, Nat.le_refl _⟩
  · split at h
    · cases h
    · rename_i x t2 hu
      cases h
      refine ⟨(unum_lt 0 0 t x t' (by omega) (by decide) hB hu).2, ?_⟩
      have := congrArg List.length (unum_one t x t' hB hu)
      rw [List.length_append] at this
      omega
theorem rd1_ok {b : Int} {t t' : List Int} {p : Int × Int} (hB : BOk t) (h : rd1 b t = .ok (p, t')) : BOk t' ∧ t'.length ≤ t.length ∧ p.1 = b ∧ okB p.1 p.2 = true ∧ opR (kd b.toNat) t = .ok (p.2, t') ∧ isOp b = true := by
  unfold rd1 at h
  split at h
  · rename_i hop
    split at h
    · cases h
    · rename_i a t2 hu
      split at h
      · rename_i hok
        cases h
        obtain ⟨q1, q2⟩ := opR_ok hB hu
        exact ⟨q1, q2, rfl, hok, hu, hop⟩
      · cases h
  · cases h
theorem decG_nil (f : Nat) (acc : List (Int × Int)) : decG f acc [] = .ok acc := by cases f <;> rfl

/-- A reader of one's own and a list that grows. -/
structure DJ (w : World) (r rb : Nat) (acc : List (Int × Int)) (v : Value) (rest : List Int) (vr : Value) (wr : World) : Prop where
  rdr : Rdr wr r rb vr rest 0
  row : Ro wr 2 v acc.length (flat acc)
  bel : Below w.heap.size w wr
  own : ∀ k, v.ownBlock = some k → w.heap.size ≤ k ∧ k ≠ r ∧ k ≠ rb
  rlo : w.heap.size ≤ r
theorem Rdr.rb_lt {w : World} {r rb : Nat} {v : Value} {b : Int} {t : List Int} {e : Int} (h : Rdr w r rb v (b :: t) e) : rb < w.heap.size := by
  rcases h.rd with ⟨_, q⟩ | ⟨b0, off, cap, e, _, _, q, _⟩
  · cases q
  · have := h.ap b0 off _ cap e
    omega
theorem Fr.row2 {S : Nat → Prop} {w w' : World} {v : Value} {n : Nat} {xs : List Value} (h : Ro w 2 v n xs) (f : Fr S w w') (hn : ∀ k, v.ownBlock = some k → ¬ S k) : Ro w' 2 v n xs := h.keep (fun g hg => f.block g (h.lt g hg) (hn g hg))

def DecPost (w : World) (o : Except Int (List (Int × Int))) (e : Ending) (w' : World) : Prop :=
  ∃ v', e = .returned (.tuple #[v', .int .i64 (errOf o)]) ∧ Gw w (lstOf o) v' w'
theorem Gw.nil {w wr : World} (h : Below w.heap.size w wr) : Gw w [] (.slice none 0 0) wr := ⟨by simpa [flat] using Ro.nil _ _, h, by simp [Value.ownBlock]⟩

set_option maxRecDepth 100000 in
set_option maxHeartbeats 4000000 in
theorem decode_any (bv : Value) (B : List Int) (w : World) (hR : Rd w bv B) (hB : BOk B) (hN : B.length ≤ 140737488355328) :
    Calls Tryz.prog 70 #[bv] w fun e w' => DecPost w (dec B) e w' := by
  have HNR := hide (newReader_any bv B w hR hN)
  have HBB := hide hB
  obtain ⟨o, ho⟩ : ∃ o, Hid (o = dec B) := ⟨_, rfl⟩
  rw [← unhide ho]
  obtain ⟨N, hNN⟩ : ∃ N, Hid (N = B.length) := ⟨_, rfl⟩
  clear hR hB hN
  go_enter Tryz.func70, Tryz.ntmps70
  go_wp2_with fail
  refine (unhide HNR).mono ?_
  rintro e w1 ⟨r, rb, v2, rfl, h1, h2, h3, h4⟩
  have J0 : Hid (DJ w r rb [] (.slice none 0 0) B v2 w1) := ⟨h3, by simpa [flat] using Ro.nil _ _, h4, by simp [Value.ownBlock], h1⟩
  clear h1 h2 h3 h4 HNR
  go_wp2_with fail
  go_loopg [5] N (fun g t5 wr => ∃ (acc : List (Int × Int)) (rest : List Int) (v vr : Value) (f : Nat), Hid (rest.length = g ∧ rest.length < f ∧ acc.length ≤ 2000 ∧ BOk rest) ∧ t5 = v ∧ Hid (o = decG f acc rest) ∧ Hid (DJ w r rb acc v rest vr wr))
  case atStart => exact ⟨[], B, _, v2, B.length + 1, ⟨(unhide hNN).symm, by omega, by simp, unhide HBB⟩, rfl, unhide ho, unhide J0⟩
  case round =>
    clear J0
    obtain ⟨acc, rest, v, vr, f, hM, rfl, hO, hJ⟩ := hrel
    have HLf := hide (rLeft_any r vr rest 0 wr (unhide hJ).rdr)
    obtain ⟨va, vc, ve, vl, _⟩ := (unhide hJ).row.shape
    cases rest with
    | nil =>
      have HO : Hid (o = .ok acc) := by unfold Hid; rw [unhide hO, decG_nil]
      have HL0 : Hid (Calls Tryz.prog 102 #[.pointer (some ⟨r, 0, none⟩)] wr fun e w' => e = .returned (.int .i64 0) ∧ w' = wr) := unhide HLf
      clear HLf hO ve vl
      go_wp2_with fail
      refine (unhide HL0).mono ?_
      rintro e w2 ⟨rfl, rfl⟩
      go_wp2_with fail
      go_ret2
      rw [unhide HO]
      exact ⟨_, rfl, (unhide hJ).row, (unhide hJ).bel, fun k hk => ((unhide hJ).own k hk).1⟩
    | cons b t =>
      obtain ⟨L, hL⟩ : ∃ L : Nat, Hid (((b :: t).length : Int) = (L : Int) ∧ 0 < L) := ⟨t.length + 1, by unfold Hid; simp⟩
      rw [(unhide hL).1] at HLf
      have hL0 := (unhide hL).2
      obtain ⟨A, hA⟩ : ∃ A, Hid (acc.length = A) := ⟨_, rfl⟩
      rw [unhide hA] at ve vl
      subst ve
      have HNx := hide (next_any r vr b t wr (unhide hJ).rdr (unhide hM).2.2.2 (unhide hJ).rdr.rb_lt)
      obtain ⟨f', rfl⟩ : ∃ f', f = f' + 1 := ⟨f - 1, by have := unhide hM; omega⟩
      have hOO : Hid (o = if acc.length = 2000 then .error 5 else match rd1 b t with
        | .error e => .error e
        | .ok (p, t') => decG f' (acc ++ [p]) t') := unhide hO
      by_cases hfull : A = 2000
      · have HO : Hid (o = .error 5) := by unfold Hid; rw [unhide hOO, if_pos (by rw [unhide hA]; exact hfull)]
        subst hfull
        clear hOO hO
        go_wp2_with fail
        refine (unhide HLf).mono ?_
        rintro e w2 ⟨rfl, rfl⟩
        go_wp2_with fail
        go_ret2
        rw [unhide HO]
        exact ⟨_, rfl, Gw.nil (unhide hJ).bel⟩
      · have hf' : ((A : Int) == 2000) = false := by simp; omega
        have hO2 : Hid (o = match rd1 b t with
          | .error e => .error e
          | .ok (p, t') => decG f' (acc ++ [p]) t') := by unfold Hid; rw [unhide hOO, if_neg (by rw [unhide hA]; exact hfull)]
        clear hOO hO
        have hmv := unhide HNx
        cases hrd : rd1 b t with
        | error er =>
          rw [hrd] at hmv
          have HNx2 := hide hmv
          have HO : Hid (o = .error er) := by unfold Hid; rw [unhide hO2, hrd]
          clear hmv HNx hO2
          go_wp2_with fail
          refine (unhide HLf).mono ?_
          rintro e w2 ⟨rfl, rfl⟩
          go_wp2_with fail
          refine (unhide HNx2).mono ?_
          rintro e w3 ⟨x, y, rfl, her, hF3⟩
          have her' : (er != 0) = true := by simpa using her
          have F3 := hide hF3
          clear her hF3
          go_wp2_with fail
          go_ret2
          rw [unhide HO]
          refine ⟨_, rfl, Gw.nil ?_⟩
          have hb := (unhide hJ).bel
          exact (hb.trans ((unhide F3).below hb.size (fun k hk e => by have := (unhide hJ).rlo; omega))).alloc (by have := (unhide F3).size; have := hb.size; omega) _
        | ok q =>
          obtain ⟨⟨op, a⟩, t'⟩ := q
          rw [hrd] at hmv
          have HNx2 := hide hmv
          have HO : Hid (o = decG f' (acc ++ [(op, a)]) t') := by unfold Hid; rw [unhide hO2, hrd]
          have HT := hide (rd1_ok (fun x hx => (unhide hM).2.2.2 x (List.mem_cons_of_mem _ hx)) hrd)
          clear hmv HNx hO2
          go_wp2_with fail
          refine (unhide HLf).mono ?_
          rintro e w2 ⟨rfl, rfl⟩
          go_wp2_with fail
          refine (unhide HNx2).mono ?_
          rintro e w3 ⟨rfl, v3, hD3, hF3⟩
          have hrow3 : Ro w3 2 (.slice va A vc) acc.length (flat acc) := Fr.row2 (unhide hJ).row hF3 (fun k hk e => ((unhide hJ).own k hk).2.1 e)
          have HRo := hide hrow3
          have D3 := hide hD3
          have F3 := hide hF3
          have HRo2 : Hid (Ro ((w3.alloc (.cells #[.int .i64 op, .int .i64 a] 63)).alloc (.cells #[.int .i64 op, .int .i64 a] 63)) 2 (.slice va A vc) acc.length (flat acc)) :=
            Fr.row2 (S := fun _ => False) hrow3 (((Fr.refl _ w3).alloc _).alloc _) (fun _ _ e => e)
          have HTN : Hid (∀ j u, [Value.int .i64 op, .int .i64 a][j]? = some u → ((w3.alloc (.cells #[.int .i64 op, .int .i64 a] 63)).alloc (.cells #[.int .i64 op, .int .i64 a] 63)).cell? ((⟨w3.heap.size + 1, 0, none⟩ : Addr).add j) = some u) := by
            have q := two_new' (w3.alloc (.cells #[.int .i64 op, .int .i64 a] 63)) (.int .i64 op) (.int .i64 a) 63
            rw [show (w3.alloc (.cells #[.int .i64 op, .int .i64 a] 63)).heap.size = w3.heap.size + 1 by simp] at q
            exact q
          have HLN : Hid (acc.length ≤ 8796093022207) := by have := unhide hM; unfold Hid; omega
          clear hrow3 hD3 hF3
          go_wp2_with (first | (at_builtin; refine wpList_appW rfl _ _ rfl _ acc rfl (unhide HRo2) ⟨w3.heap.size + 1, 0, none⟩ 1 op a rfl (unhide HTN) (unhide HLN) ?_))
          intro v5 w5 hr5 hg5 hat5
          have f5 : Fr (fun k => (Value.slice va A vc).ownBlock = some k) w3 w5 := (((Fr.refl (fun k => (Value.slice va A vc).ownBlock = some k) w3).alloc _).alloc _).grown hg5 (fun k e => .inr e)
          have hrl := (unhide D3).lt
          have hrbl : rb < w3.heap.size := Nat.lt_of_lt_of_le (unhide hJ).rdr.rb_lt (unhide F3).size
          have hb := (unhide hJ).bel
          have hb3 := hb.trans ((unhide F3).below hb.size (fun k hk e => by have := (unhide hJ).rlo; omega))
          have J5 : Hid (DJ w r rb (acc ++ [(op, a)]) v5 t' v3 w5) := by
            refine ⟨(unhide D3).keep f5 (fun e => ((unhide hJ).own r e).2.1 rfl) (fun b0 off len cap e q => ?_), by simpa using hr5, hb3.trans (f5.below hb3.size (fun k hk e => by have := ((unhide hJ).own k e).1; omega)), fun k hk => ?_, (unhide hJ).rlo⟩
            · have q1 := (unhide D3).ap b0 off len cap e
              exact ((unhide hJ).own b0 q).2.2 q1
            · rcases hat5 with e | e
              · rw [e] at hk; exact (unhide hJ).own k hk
              · rw [e] at hk
                cases hk
                have := hb3.size
                simp
                omega
          clear hr5 hg5 hat5 f5 hrl hrbl hb hb3
          go_wp2_with fail
          go_roundg (t'.length)
          case measure =>
            have h1 := (unhide hM).1
            have h2 := (unhide HT).2.1
            simp at h1
            omega
          case rel =>
            refine ⟨acc ++ [(op, a)], t', v5, v3, f', ?_, rfl, unhide HO, unhide J5⟩
            have h1 := (unhide hM).1
            have h2 := (unhide hM).2.1
            have h3 := (unhide hM).2.2.1
            have h4 := unhide HT
            have h5 := unhide hA
            simp at h1 h2
            refine ⟨rfl, by omega, ?_, h4.1⟩
            rw [List.length_append, List.length_singleton]
            omega

set_option linter.unusedVariables false

/-- A state. -/
abbrev Sr := List Int × Int
/-- The reader at r is in this state. -/
def RS (w : World) (r rb : Nat) (s : Sr) : Prop := ∃ v, Rdr w r rb v s.1 s.2 ∧ BOk s.1 ∧ s.1.length ≤ 140737488355328
/-- Behind a call that answers u. -/
def RQ (r rb : Nat) (w : World) (u : Value) (s : Sr) (e : Ending) (w' : World) : Prop := e = .returned u ∧ RS w' r rb s ∧ RFr r w w'
def cnt (most : Int) (s : Sr) : Nat × Sr := if s.2 = 0 then (match unumMost most s.1 with | .ok (x, t) => (x, (t, 0)) | .error k => (0, (s.1, k))) else (0, s)
def txt (most : Int) (s : Sr) : ByteArray × Sr := if s.2 = 0 then (match unumMost most s.1 with | .error k => (ByteArray.empty, (s.1, k)) | .ok (x, t) => if t.length < x then (ByteArray.empty, (s.1, 2)) else (toStr (t.take x), (t.drop x, 0))) else (ByteArray.empty, s)
def byt (s : Sr) : Int × Sr := if s.2 = 0 then (match s.1 with | [] => (0, (s.1, 2)) | b :: t => (b, (t, 0))) else (0, s)
def wrd (s : Sr) : Nat × Sr := if s.2 = 0 then (if s.1.length < 8 then (0, (s.1, 2)) else (wnum 0 (s.1.take 8), (s.1.drop 8, 0))) else (0, s)
def raw (n : Nat) (s : Sr) : List Int × Sr := if s.2 = 0 then (if s.1.length < n then ([], (s.1, 2)) else (s.1.take n, (s.1.drop n, 0))) else ([], s)

theorem unum_len : ∀ (bs : List Int) (i acc x : Nat) (t : List Int), unum i acc bs = .ok (x, t) → t.length < bs.length := by
  intro bs
  induction bs with
  | nil => intro i acc x t h; rw [unum] at h; cases h
  | cons b r ih =>
    intro i acc x t h
    rw [unum_cons] at h
    by_cases q : i = 9 ∧ b ≠ 1 ∨ 0 < i ∧ b = 0
    · rw [if_pos q] at h; cases h
    · rw [if_neg q] at h
      by_cases q2 : b < 128
      · rw [if_pos q2] at h
        cases h
        simp
      · rw [if_neg q2] at h
        have := ih _ _ _ _ h
        simp
        omega
theorem unumMost_len {most : Int} {bs : List Int} {x : Nat} {t : List Int} (h : unumMost most bs = .ok (x, t)) : t.length < bs.length ∧ (x : Int) ≤ max most 0 := by
  unfold unumMost at h
  cases hu : unum 0 0 bs with
  | error k => rw [hu] at h; cases h
  | ok p =>
    obtain ⟨y, u⟩ := p
    rw [hu] at h
    simp only at h
    by_cases q : max most 0 < (y : Int)
    · rw [if_pos q] at h; cases h
    · rw [if_neg q] at h
      cases h
      exact ⟨unum_len _ _ _ _ _ hu, by omega⟩
theorem cnt_le (most : Int) (s : Sr) : ((cnt most s).1 : Int) ≤ max most 0 := by
  unfold cnt
  by_cases q : s.2 = 0
  · rw [if_pos q]
    cases hu : unumMost most s.1 with
    | error k => simp; omega
    | ok p => obtain ⟨x, t⟩ := p; exact (unumMost_len hu).2
  · rw [if_neg q]; simp; omega
theorem cnt_err {most : Int} {s : Sr} (h : (cnt most s).2.2 ≠ 0) : (cnt most s).1 = 0 := by
  unfold cnt at h ⊢
  by_cases q : s.2 = 0
  · rw [if_pos q] at h ⊢
    cases hu : unumMost most s.1 with
    | error k => rfl
    | ok p => obtain ⟨x, t⟩ := p; rw [hu] at h; exact absurd rfl h
  · rw [if_neg q]
theorem RS.fr {S : Nat → Prop} {w w' : World} {r rb : Nat} {s : Sr} (h : RS w r rb s) (f : Fr S w w') (hr : ¬ S r) (hb : ¬ S rb) : RS w' r rb s := by
  obtain ⟨v, h1, h2⟩ := h
  exact ⟨v, h1.keep f hr (fun b off len cap e => by rw [h1.ap b off len cap e]; exact hb), h2⟩
theorem RS.lt {w : World} {r rb : Nat} {s : Sr} (h : RS w r rb s) : r < w.heap.size := by obtain ⟨v, h1, _⟩ := h; exact h1.lt
section
variable {w : World} {r rb : Nat} {s : Sr}
theorem cnt_any (h : RS w r rb s) (most : Int) (hm : most ≤ 9223372036854775807) : Calls Tryz.prog 66 #[.pointer (some ⟨r, 0, none⟩), .int .i64 most] w fun e w' => RQ r rb w (.int .i64 (cnt most s).1) (cnt most s).2 e w' := by
  obtain ⟨v, h1, h2, h3⟩ := h
  refine (rCount_any r v s.1 s.2 most w h1 h2 hm).mono ?_
  rintro e w' ⟨he, v2, h4, h5⟩
  unfold rres at he h4
  unfold cnt RQ
  by_cases q : s.2 = 0
  · rw [if_pos q] at he h4 ⊢
    cases hu : unumMost most s.1 with
    | error k => rw [hu] at he h4; exact ⟨he, ⟨v2, h4, h2, h3⟩, h5⟩
    | ok p =>
      obtain ⟨x, t⟩ := p
      rw [hu] at he h4
      exact ⟨he, ⟨v2, h4, unumMost_ok h2 hu, Nat.le_trans (Nat.le_of_lt (unumMost_len hu).1) h3⟩, h5⟩
  · rw [if_neg q] at he h4 ⊢
    exact ⟨he, ⟨v2, h4, h2, h3⟩, h5⟩
theorem txt_any (h : RS w r rb s) (most : Int) (hm : most ≤ 9223372036854775807) : Calls Tryz.prog 69 #[.pointer (some ⟨r, 0, none⟩), .int .i64 most] w fun e w' => RQ r rb w (.string (txt most s).1) (txt most s).2 e w' := by
  obtain ⟨v, h1, h2, h3⟩ := h
  refine (rText_any r v s.1 s.2 most w h1 h2 hm).mono ?_
  rintro e w' ⟨he, v2, h4, h5⟩
  unfold rres gText at he h4
  unfold txt RQ
  by_cases q : s.2 = 0
  · rw [if_pos q] at he h4 ⊢
    cases hu : unumMost most s.1 with
    | error k => rw [hu] at he h4; exact ⟨he, ⟨v2, h4, h2, h3⟩, h5⟩
    | ok p =>
      obtain ⟨x, t⟩ := p
      rw [hu] at he h4
      have hl := (unumMost_len hu).1
      have hb := unumMost_ok h2 hu
      by_cases q2 : t.length < x
      · simp only [if_pos q2] at he h4 ⊢
        exact ⟨he, ⟨v2, h4, h2, h3⟩, h5⟩
      · simp only [if_neg q2] at he h4 ⊢
        exact ⟨he, ⟨v2, h4, fun b hb' => hb b (List.mem_of_mem_drop hb'), by simp only [List.length_drop]; omega⟩, h5⟩
  · rw [if_neg q] at he h4 ⊢
    exact ⟨he, ⟨v2, h4, h2, h3⟩, h5⟩
theorem byt_any (h : RS w r rb s) : Calls Tryz.prog 67 #[.pointer (some ⟨r, 0, none⟩)] w fun e w' => RQ r rb w (.int .u8 (byt s).1) (byt s).2 e w' := by
  obtain ⟨v, h1, h2, h3⟩ := h
  refine (rByte_any r v s.1 s.2 w h1).mono ?_
  rintro e w' ⟨he, v2, h4, h5⟩
  unfold rres at he h4
  unfold byt RQ
  by_cases q : s.2 = 0
  · rw [if_pos q] at he h4 ⊢
    obtain ⟨s1, s2⟩ := s
    cases s1 with
    | nil => exact ⟨he, ⟨v2, h4, h2, h3⟩, h5⟩
    | cons b t => exact ⟨he, ⟨v2, h4, fun b' hb' => h2 b' (List.mem_cons_of_mem _ hb'), by simp at h3 ⊢; omega⟩, h5⟩
  · rw [if_neg q] at he h4 ⊢
    exact ⟨he, ⟨v2, h4, h2, h3⟩, h5⟩
theorem wrd_any (h : RS w r rb s) : Calls Tryz.prog 68 #[.pointer (some ⟨r, 0, none⟩)] w fun e w' => RQ r rb w (.int .u64 (wrd s).1) (wrd s).2 e w' := by
  obtain ⟨v, h1, h2, h3⟩ := h
  refine (rWord_any r v s.1 s.2 w h1 h2).mono ?_
  rintro e w' ⟨he, v2, h4, h5⟩
  unfold rres gWord at he h4
  unfold wrd RQ
  by_cases q : s.2 = 0
  · rw [if_pos q] at he h4 ⊢
    by_cases q2 : s.1.length < 8
    · simp only [if_pos q2] at he h4 ⊢
      exact ⟨he, ⟨v2, h4, h2, h3⟩, h5⟩
    · simp only [if_neg q2] at he h4 ⊢
      exact ⟨he, ⟨v2, h4, fun b hb' => h2 b (List.mem_of_mem_drop hb'), by simp only [List.length_drop]; omega⟩, h5⟩
  · rw [if_neg q] at he h4 ⊢
    exact ⟨he, ⟨v2, h4, h2, h3⟩, h5⟩
theorem err_any (h : RS w r rb s) : Calls Tryz.prog 40 #[.pointer (some ⟨r, 0, none⟩)] w fun e w' => e = .returned (.int .i64 s.2) ∧ w' = w := by
  obtain ⟨v, h1, _⟩ := h
  exact rErr_any r v s.1 s.2 w h1
theorem end_any (h : RS w r rb s) : Calls Tryz.prog 45 #[.pointer (some ⟨r, 0, none⟩)] w fun e w' => e = .returned (.int .i64 (rEnd s.1 s.2)) ∧ w' = w := by
  obtain ⟨v, h1, _⟩ := h
  exact rEnd_any r v s.1 s.2 w h1
theorem rraw_any (h : RS w r rb s) (n : Nat) : Calls Tryz.prog 39 #[.pointer (some ⟨r, 0, none⟩), .int .i64 (n : Int)] w fun e w' => ∃ u, RQ r rb w u (raw n s).2 e w' ∧ Rd w' u (raw n s).1 ∧ BOk (raw n s).1 ∧ (raw n s).1.length ≤ n := by
  obtain ⟨v, h1, h2, h3⟩ := h
  unfold raw
  by_cases q : s.2 = 0
  · by_cases q2 : s.1.length < n
    · simp only [if_pos q, if_pos q2]
      refine (rRaw_bad r v s.1 s.2 n w h1 (.inr (.inr (by omega)))).mono ?_
      rintro e w' ⟨he, v2, h4, h5⟩
      refine ⟨.slice none 0 0, ⟨he, ⟨v2, ?_, h2, h3⟩, h5⟩, .inl ⟨rfl, rfl⟩, fun b hb => by simp at hb, by simp⟩
      have : rawErr n s.2 = 2 := by unfold rawErr; rw [if_pos q, if_neg (by omega)]
      rw [this] at h4
      exact h4
    · simp only [if_pos q, if_neg q2]
      refine (rRaw_good r v s.1 n w (q ▸ h1) h3 (by omega)).mono ?_
      rintro e w' ⟨val, he, ho, v2, h4, h5⟩
      have hl : (s.1.take n).length = n := by rw [List.length_take]; omega
      exact ⟨val, ⟨he, ⟨v2, h4, fun b hb' => h2 b (List.mem_of_mem_drop hb'), by simp only [List.length_drop]; omega⟩, h5⟩, Rd.of_own (by rw [hl]; exact ho), fun b hb' => h2 b (List.mem_of_mem_take hb'), by omega⟩
  · simp only [if_neg q]
    refine (rRaw_bad r v s.1 s.2 n w h1 (.inl q)).mono ?_
    rintro e w' ⟨he, v2, h4, h5⟩
    refine ⟨.slice none 0 0, ⟨he, ⟨v2, ?_, h2, h3⟩, h5⟩, .inl ⟨rfl, rfl⟩, fun b hb => by simp at hb, by simp⟩
    have : rawErr n s.2 = s.2 := by unfold rawErr; rw [if_neg q]
    rw [this] at h4
    exact h4
end
end Go.Proofs.YtpfogphpeegfdaaGreatDoor
