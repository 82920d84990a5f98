/-
  Decode.
-/
import Derived.Test.YtjifgnpcadeonaaNext
namespace Go.Proofs.Ytjifgnpcadeonaa
open Go.RowKit
set_option linter.unusedVariables false

/-- A list of instructions, out of bytes. -/
def decG : Nat → List (Int × Int) → List Int → Except Int (List (Int × Int))
  | 0, acc, _ => .ok acc
  | f + 1, acc, [] => .ok acc
  | f + 1, acc, b :: t => if acc.length = 2000 then .error 5 else match rd1 b t with
    | .error e => .error e
    | .ok (p, t') => decG f (acc ++ [p]) t'
def dec (B : List Int) : Except Int (List (Int × Int)) := decG (B.length + 1) [] B
def errOf (o : Except Int (List (Int × Int))) : Int := match o with | .ok _ => 0 | .error e => e
def lstOf (o : Except Int (List (Int × Int))) : List (Int × Int) := match o with | .ok l => l | .error _ => []

theorem opR_ok {k : Nat} {t t' : List Int} {a : Int} (hB : BOk t) (h : opR k t = .ok (a, t')) : BOk t' ∧ t'.length ≤ t.length := by
  unfold opR at h
  split at h
  · cases h; exact ⟨hB, Nat.le_refl _⟩
  · split at h
    · cases h
    · rename_i x t2 hu
      cases h
      refine ⟨(unum_lt 0 0 t x t' (by omega) (by decide) hB hu).2, ?_⟩
      have := congrArg List.length (unum_one t x t' hB hu)
      rw [List.length_append] at this
      omega
theorem rd1_ok {b : Int} {t t' : List Int} {p : Int × Int} (hB : BOk t) (h : rd1 b t = .ok (p, t')) : BOk t' ∧ t'.length ≤ t.length ∧ p.1 = b ∧ okB p.1 p.2 = true ∧ opR (kd b.toNat) t = .ok (p.2, t') ∧ isOp b = true := by
  unfold rd1 at h
  split at h
  · rename_i hop
    split at h
    · cases h
    · rename_i a t2 hu
      split at h
      · rename_i hok
        cases h
        obtain ⟨q1, q2⟩ := opR_ok hB hu
        exact ⟨q1, q2, rfl, hok, hu, hop⟩
      · cases h
  · cases h
theorem decG_nil (f : Nat) (acc : List (Int × Int)) : decG f acc [] = .ok acc := by cases f <;> rfl

/-- A reader of one's own and a list that grows. -/
structure DJ (w : World) (r rb : Nat) (acc : List (Int × Int)) (v : Value) (rest : List Int) (vr : Value) (wr : World) : Prop where
  rdr : Rdr wr r rb vr rest 0
  row : Ro wr 2 v acc.length (flat acc)
  bel : Below w.heap.size w wr
  own : ∀ k, v.ownBlock = some k → w.heap.size ≤ k ∧ k ≠ r ∧ k ≠ rb
  rlo : w.heap.size ≤ r
theorem Rdr.rb_lt {w : World} {r rb : Nat} {v : Value} {b : Int} {t : List Int} {e : Int} (h : Rdr w r rb v (b :: t) e) : rb < w.heap.size := by
  rcases h.rd with ⟨_, q⟩ | ⟨b0, off, cap, e, _, _, q, _⟩
  · cases q
  · have := h.ap b0 off _ cap e
    omega
theorem Fr.row2 {S : Nat → Prop} {w w' : World} {v : Value} {n : Nat} {xs : List Value} (h : Ro w 2 v n xs) (f : Fr S w w') (hn : ∀ k, v.ownBlock = some k → ¬ S k) : Ro w' 2 v n xs := h.keep (fun g hg => f.block g (h.lt g hg) (hn g hg))

def DecPost (w : World) (o : Except Int (List (Int × Int))) (e : Ending) (w' : World) : Prop :=
  ∃ v', e = .returned (.tuple #[v', .int .i64 (errOf o)]) ∧ Gw w (lstOf o) v' w'
theorem Gw.nil {w wr : World} (h : Below w.heap.size w wr) : Gw w [] (.slice none 0 0) wr := ⟨by simpa [flat] using Ro.nil _ _, h, by simp [Value.ownBlock]⟩

set_option maxRecDepth 100000 in
set_option maxHeartbeats 4000000 in
theorem decode_any (bv : Value) (B : List Int) (w : World) (hR : Rd w bv B) (hB : BOk B) (hN : B.length ≤ 140737488355328) :
    Calls Try.prog 19 #[bv] w fun e w' => DecPost w (dec B) e w' := by
  have HNR := hide (newReader_any bv B w hR hN)
  have HBB := hide hB
  obtain ⟨o, ho⟩ : ∃ o, Hid (o = dec B) := ⟨_, rfl⟩
  rw [← unhide ho]
  obtain ⟨N, hNN⟩ : ∃ N, Hid (N = B.length) := ⟨_, rfl⟩
  clear hR hB hN
  go_enter Try.func19, Try.ntmps19
  go_wp2_with fail
  refine (unhide HNR).mono ?_
  rintro e w1 ⟨r, rb, v2, rfl, h1, h2, h3, h4⟩
  have J0 : Hid (DJ w r rb [] (.slice none 0 0) B v2 w1) := ⟨h3, by simpa [flat] using Ro.nil _ _, h4, by simp [Value.ownBlock], h1⟩
  clear h1 h2 h3 h4 HNR
  go_wp2_with fail
  go_loopg [5] N (fun g t5 wr => ∃ (acc : List (Int × Int)) (rest : List Int) (v vr : Value) (f : Nat), Hid (rest.length = g ∧ rest.length < f ∧ acc.length ≤ 2000 ∧ BOk rest) ∧ t5 = v ∧ Hid (o = decG f acc rest) ∧ Hid (DJ w r rb acc v rest vr wr))
  case atStart => exact ⟨[], B, _, v2, B.length + 1, ⟨(unhide hNN).symm, by omega, by simp, unhide HBB⟩, rfl, unhide ho, unhide J0⟩
  case round =>
    clear J0
    obtain ⟨acc, rest, v, vr, f, hM, rfl, hO, hJ⟩ := hrel
    have HLf := hide (rLeft_any r vr rest 0 wr (unhide hJ).rdr)
    obtain ⟨va, vc, ve, vl, _⟩ := (unhide hJ).row.shape
    cases rest with
    | nil =>
      have HO : Hid (o = .ok acc) := by unfold Hid; rw [unhide hO, decG_nil]
      have HL0 : Hid (Calls Try.prog 37 #[.pointer (some ⟨r, 0, none⟩)] wr fun e w' => e = .returned (.int .i64 0) ∧ w' = wr) := unhide HLf
      clear HLf hO ve vl
      go_wp2_with fail
      refine (unhide HL0).mono ?_
      rintro e w2 ⟨rfl, rfl⟩
      go_wp2_with fail
      go_ret2
      rw [unhide HO]
      exact ⟨_, rfl, (unhide hJ).row, (unhide hJ).bel, fun k hk => ((unhide hJ).own k hk).1⟩
    | cons b t =>
      obtain ⟨L, hL⟩ : ∃ L : Nat, Hid (((b :: t).length : Int) = (L : Int) ∧ 0 < L) := ⟨t.length + 1, by unfold Hid; simp⟩
      rw [(unhide hL).1] at HLf
      have hL0 := (unhide hL).2
      obtain ⟨A, hA⟩ : ∃ A, Hid (acc.length = A) := ⟨_, rfl⟩
      rw [unhide hA] at ve vl
      subst ve
      have HNx := hide (next_any r vr b t wr (unhide hJ).rdr (unhide hM).2.2.2 (unhide hJ).rdr.rb_lt)
      obtain ⟨f', rfl⟩ : ∃ f', f = f' + 1 := ⟨f - 1, by have := unhide hM; omega⟩
      have hOO : Hid (o = if acc.length = 2000 then .error 5 else match rd1 b t with
        | .error e => .error e
        | .ok (p, t') => decG f' (acc ++ [p]) t') := unhide hO
      by_cases hfull : A = 2000
      · have HO : Hid (o = .error 5) := by unfold Hid; rw [unhide hOO, if_pos (by rw [unhide hA]; exact hfull)]
        subst hfull
        clear hOO hO
        go_wp2_with fail
        refine (unhide HLf).mono ?_
        rintro e w2 ⟨rfl, rfl⟩
        go_wp2_with fail
        go_ret2
        rw [unhide HO]
        exact ⟨_, rfl, Gw.nil (unhide hJ).bel⟩
      · have hf' : ((A : Int) == 2000) = false := by simp; omega
        have hO2 : Hid (o = match rd1 b t with
          | .error e => .error e
          | .ok (p, t') => decG f' (acc ++ [p]) t') := by unfold Hid; rw [unhide hOO, if_neg (by rw [unhide hA]; exact hfull)]
        clear hOO hO
        have hmv := unhide HNx
        cases hrd : rd1 b t with
        | error er =>
          rw [hrd] at hmv
          have HNx2 := hide hmv
          have HO : Hid (o = .error er) := by unfold Hid; rw [unhide hO2, hrd]
          clear hmv HNx hO2
          go_wp2_with fail
          refine (unhide HLf).mono ?_
          rintro e w2 ⟨rfl, rfl⟩
          go_wp2_with fail
          refine (unhide HNx2).mono ?_
          rintro e w3 ⟨x, y, rfl, her, hF3⟩
          have her' : (er != 0) = true := by simpa using her
          have F3 := hide hF3
          clear her hF3
          go_wp2_with fail
          go_ret2
          rw [unhide HO]
          refine ⟨_, rfl, Gw.nil ?_⟩
          have hb := (unhide hJ).bel
          exact (hb.trans ((unhide F3).below hb.size (fun k hk e => by have := (unhide hJ).rlo; omega))).alloc (by have := (unhide F3).size; have := hb.size; omega) _
        | ok q =>
          obtain ⟨⟨op, a⟩, t'⟩ := q
          rw [hrd] at hmv
          have HNx2 := hide hmv
          have HO : Hid (o = decG f' (acc ++ [(op, a)]) t') := by unfold Hid; rw [unhide hO2, hrd]
          have HT := hide (rd1_ok (fun x hx => (unhide hM).2.2.2 x (List.mem_cons_of_mem _ hx)) hrd)
          clear hmv HNx hO2
          go_wp2_with fail
          refine (unhide HLf).mono ?_
          rintro e w2 ⟨rfl, rfl⟩
          go_wp2_with fail
          refine (unhide HNx2).mono ?_
          rintro e w3 ⟨rfl, v3, hD3, hF3⟩
          have hrow3 : Ro w3 2 (.slice va A vc) acc.length (flat acc) := Fr.row2 (unhide hJ).row hF3 (fun k hk e => ((unhide hJ).own k hk).2.1 e)
          have HRo := hide hrow3
          have D3 := hide hD3
          have F3 := hide hF3
          have HRo2 : Hid (Ro ((w3.alloc (.cells #[.int .i64 op, .int .i64 a] 34)).alloc (.cells #[.int .i64 op, .int .i64 a] 34)) 2 (.slice va A vc) acc.length (flat acc)) :=
            Fr.row2 (S := fun _ => False) hrow3 (((Fr.refl _ w3).alloc _).alloc _) (fun _ _ e => e)
          have HTN : Hid (∀ j u, [Value.int .i64 op, .int .i64 a][j]? = some u → ((w3.alloc (.cells #[.int .i64 op, .int .i64 a] 34)).alloc (.cells #[.int .i64 op, .int .i64 a] 34)).cell? ((⟨w3.heap.size + 1, 0, none⟩ : Addr).add j) = some u) := by
            have q := two_new' (w3.alloc (.cells #[.int .i64 op, .int .i64 a] 34)) (.int .i64 op) (.int .i64 a) 34
            rw [show (w3.alloc (.cells #[.int .i64 op, .int .i64 a] 34)).heap.size = w3.heap.size + 1 by simp] at q
            exact q
          have HLN : Hid (acc.length ≤ 8796093022207) := by have := unhide hM; unfold Hid; omega
          clear hrow3 hD3 hF3
          go_wp2_with (first | (at_builtin; refine wpList_appW rfl _ _ rfl _ acc rfl (unhide HRo2) ⟨w3.heap.size + 1, 0, none⟩ 1 op a rfl (unhide HTN) (unhide HLN) ?_))
          intro v5 w5 hr5 hg5 hat5
          have f5 : Fr (fun k => (Value.slice va A vc).ownBlock = some k) w3 w5 := (((Fr.refl (fun k => (Value.slice va A vc).ownBlock = some k) w3).alloc _).alloc _).grown hg5 (fun k e => .inr e)
          have hrl := (unhide D3).lt
          have hrbl : rb < w3.heap.size := Nat.lt_of_lt_of_le (unhide hJ).rdr.rb_lt (unhide F3).size
          have hb := (unhide hJ).bel
          have hb3 := hb.trans ((unhide F3).below hb.size (fun k hk e => by have := (unhide hJ).rlo; omega))
          have J5 : Hid (DJ w r rb (acc ++ [(op, a)]) v5 t' v3 w5) := by
            refine ⟨(unhide D3).keep f5 (fun e => ((unhide hJ).own r e).2.1 rfl) (fun b0 off len cap e q => ?_), by simpa using hr5, hb3.trans (f5.below hb3.size (fun k hk e => by have := ((unhide hJ).own k e).1; omega)), fun k hk => ?_, (unhide hJ).rlo⟩
            · have q1 := (unhide D3).ap b0 off len cap e
              exact ((unhide hJ).own b0 q).2.2 q1
            · rcases hat5 with e | e
              · rw [e] at hk; exact (unhide hJ).own k hk
              · rw [e] at hk
                cases hk
                have := hb3.size
                simp
                omega
          clear hr5 hg5 hat5 f5 hrl hrbl hb hb3
          go_wp2_with fail
          go_roundg (t'.length)
          case measure =>
            have h1 := (unhide hM).1
            have h2 := (unhide HT).2.1
            simp at h1
            omega
          case rel =>
            refine ⟨acc ++ [(op, a)], t', v5, v3, f', ?_, rfl, unhide HO, unhide J5⟩
            have h1 := (unhide hM).1
            have h2 := (unhide hM).2.1
            have h3 := (unhide hM).2.2.1
            have h4 := unhide HT
            have h5 := unhide hA
            simp at h1 h2
            refine ⟨rfl, by omega, ?_, h4.1⟩
            rw [List.length_append, List.length_singleton]
            omega
end Go.Proofs.Ytjifgnpcadeonaa
