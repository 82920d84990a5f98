/-
  The spots of a function are read.
-/
import Derived.Test.YtaldacjeeccbhaaD2
import Derived.Test.YtaldacjeeccbhaaPMk
namespace Go.Proofs.Ytaldacjeeccbhaa
open Go.RowKit
set_option linter.unusedVariables false
set_option linter.unusedSimpArgs false
def spQ (q : Q4) : Sp := ⟨q.a, IntKind.u16.wrap q.b, IntKind.u16.wrap q.c, q.d⟩
set_option maxRecDepth 100000 in
theorem spot_any (w : World) (q : Q4) : Calls Try.prog 93 #[q4V q] w fun e w' => e = .returned (spV (spQ q)) ∧ Below w.heap.size w w' := by
  have HB := hide (bl_two w (.cells #[.int .i64 q.a, .int .i64 q.b, .int .i64 q.c, .int .i64 q.d] 72) (.cells #[.int .i64 0, .int .u16 0, .int .u16 0, .int .i64 0] 55))
  unfold q4V
  go_enter Try.func93, Try.ntmps93
  go_wp2_with fail
  refine bodyPost_ret (v := .agg #[.int .i64 q.a, .int .u16 (IntKind.u16.wrap q.b), .int .u16 (IntKind.u16.wrap q.c), .int .i64 q.d]) ?_ rfl ?_
  · rw [results_cell_one rfl]
    go_simp
  · exact ⟨rfl, bl_two w _ _⟩
theorem bl_one (w : World) (o : Obj) : Below w.heap.size w (w.alloc o) := (Below.refl _ w).alloc (Nat.le_refl _) o
/-- Spots, so many. -/
def rdL : Nat → List Sp → List Int → Except Int (List Sp × List Int)
  | 0, l, bs => .ok (l, bs)
  | n + 1, l, bs => match rdS bs with | .error e => .error e | .ok (q, t) => rdL n (l ++ [spQ q]) t
def rdF1 (bs : List Int) : Except Int (List Sp × List Int) := match unumMost 2000 bs with | .error e => .error e | .ok (n, t) => rdL n [] t
theorem rdG_ok {fl : Int} : ∀ {n : Nat} {q q' : Q4} {bs t : List Int}, BOk bs → rdG fl n q bs = .ok (q', t) → BOk t
  | 0, q, q', bs, t, h, e => by cases e; exact h
  | n + 1, q, q', bs, t, h, e => by
    unfold rdG at e
    split at e
    · cases hr : rdF (3 - n) bs with
      | error k => rw [hr] at e; cases e
      | ok p =>
        obtain ⟨x, t'⟩ := p
        rw [hr] at e
        exact rdG_ok (rdF_ok h hr) e
    · exact rdG_ok h e
theorem rdS_ok {bs t : List Int} {q : Q4} (h : BOk bs) (e : rdS bs = .ok (q, t)) : BOk t := by
  cases bs with
  | nil => cases e
  | cons b r =>
    have e2 : (if 16 ≤ b then .error 4 else rdG b 4 q4Z r) = .ok (q, t) := e
    by_cases h16 : 16 ≤ b
    · rw [if_pos h16] at e2; cases e2
    · rw [if_neg h16] at e2
      exact rdG_ok (fun x hx => h x (List.mem_cons_of_mem _ hx)) e2
/-- While spots are read. -/
structure LQ (w : World) (r rb : Nat) (lv : Value) (l : List Sp) (bs : List Int) (wr : World) : Prop where
  fr : Fr (fun k => k = r) w wr
  ow : Ro wr 4 lv l.length (flt enS l)
  ob : ∀ k, lv.ownBlock = some k → w.heap.size ≤ k
  rd : ∃ v, Rdr wr r rb v bs 0
  ok : BOk bs
  hr : r < w.heap.size
  hb : rb < w.heap.size
section
variable {w wr w' : World} {r rb : Nat} {lv : Value} {l : List Sp} {bs t : List Int}
theorem LQ.read (h : LQ w r rb lv l bs wr) (f : RFr r wr w') {v : Value} (hv : Rdr w' r rb v t 0) (hk : BOk t) : LQ w r rb lv l t w' :=
  ⟨h.fr.trans f, h.ow.fr f (fun k hk e => by have := h.ob k hk; have := h.hr; have e' : k = r := e; omega), h.ob, ⟨v, hv⟩, hk, h.hr, h.hb⟩
theorem LQ.below (h : LQ w r rb lv l bs wr) (f : Below wr.heap.size wr w') : LQ w r rb lv l bs w' := by
  obtain ⟨v, hv⟩ := h.rd
  exact ⟨h.fr.comp (Fr.of_below (S := fun _ => False) f) (fun _ _ e => e.elim), h.ow.fr (Fr.of_below (S := fun _ => False) f) (fun _ _ e => e), h.ob, ⟨v, hv.keep (Fr.of_below (S := fun _ => False) f) (by simp) (by simp)⟩, h.ok, h.hr, h.hb⟩
theorem LQ.push (h : LQ w r rb lv l bs wr) {w1 : World} {v' : Value} {s : Sp} (hb : Below wr.heap.size wr w1) {m : Nat} (hr : Ro w' 4 v' m (flt enS l ++ enS s)) (hm : m = l.length + 1) (hg : w1.grownBy w' lv.ownBlock) (hat : v'.ownBlock = lv.ownBlock ∨ v'.ownBlock = some w1.heap.size) : LQ w r rb v' (l ++ [s]) bs w' := by
  subst hm
  have f1 : Fr (fun k => lv.ownBlock = some k) wr w' := ((Fr.of_below (S := fun k => lv.ownBlock = some k) hb)).trans ((Fr.refl _ w1).grown hg (fun k e => .inr e))
  obtain ⟨v, hv⟩ := h.rd
  have h1 := h.hr
  have h2 := h.hb
  have h3 := h.fr.size
  have h4 := hb.size
  refine ⟨h.fr.comp f1 (fun i hi e => by have := h.ob i e; omega), by rw [List.length_append, flt_append, flt_one]; exact hr, fun k hk => ?_, ⟨v, hv.keep f1 (fun e => by have := h.ob r e; omega) (fun b off len cap e q => by have := hv.ap b off len cap e; have := h.ob b q; omega)⟩, h.ok, h.hr, h.hb⟩
  rcases hat with q | q
  · rw [q] at hk; exact h.ob k hk
  · rw [q] at hk; cases hk; omega
end
def LsP (r rb : Nat) (w : World) (o : Except Int (List Sp × List Int)) (e : Ending) (w' : World) : Prop := RFr r w w' ∧
  match o with
  | .error k => k ≠ 0 ∧ e = .returned (.tuple #[.slice none 0 0, .int .i64 k])
  | .ok (l, t) => ∃ lv, e = .returned (.tuple #[lv, .int .i64 0]) ∧ Ro w' 4 lv l.length (flt enS l) ∧ (∀ k, lv.ownBlock = some k → w.heap.size ≤ k) ∧ BOk t ∧ ∃ v2, Rdr w' r rb v2 t 0
theorem unumMost_ok {most : Int} {bs t : List Int} {n : Nat} (h : BOk bs) (e : unumMost most bs = .ok (n, t)) : BOk t ∧ ((n : Int) ≤ max most 0) := by
  unfold unumMost at e
  cases hu : unum 0 0 bs with
  | error k => rw [hu] at e; cases e
  | ok p =>
    obtain ⟨x, t'⟩ := p
    rw [hu] at e
    dsimp only at e
    split at e
    · cases e
    · cases e
      exact ⟨(unum_lt 0 0 bs _ _ (by omega) (by omega) h hu).2, by omega⟩
theorem unumMost_err {most : Int} {bs : List Int} {k : Int} (e : unumMost most bs = .error k) : k ≠ 0 := by
  unfold unumMost at e
  cases hu : unum 0 0 bs with
  | error k' => rw [hu] at e; cases e; exact unum_err 0 0 bs _ hu
  | ok p =>
    obtain ⟨x, t'⟩ := p
    rw [hu] at e
    dsimp only at e
    split at e
    · cases e; decide
    · cases e
set_option maxRecDepth 100000 in
set_option maxHeartbeats 6400000 in
theorem readSpots_any (r : Nat) {rb : Nat} (v : Value) (bs : List Int) (w : World) (h : Rdr w r rb v bs 0) (hB : BOk bs) (hrb : rb < w.heap.size) :
    Calls Try.prog 69 #[.pointer (some ⟨r, 0, none⟩)] w (LsP r rb w (rdF1 bs)) := by
  have hr := h.lt
  have HCO := hide (rCount_any r v bs 0 2000 w h hB (by omega))
  have HOK := hide hB
  clear h hB
  cases hu : unumMost 2000 bs with
  | error k0 =>
    have hk0 := unumMost_err hu
    have HO : Hid (rdF1 bs = .error k0) := by unfold Hid rdF1; rw [hu]
    rw [hu] at HCO
    simp only [gNum, rres, ↓reduceIte] at HCO
    go_enter Try.func69, Try.ntmps69
    go_wp2_with fail
    refine (unhide HCO).mono ?_
    rintro e w1 ⟨rfl, v2, hv2, f2⟩
    have HER := hide (rErr_any r v2 _ _ w1 hv2)
    have HF2 := hide f2
    clear hv2 f2 HCO
    go_wp2_with fail
    go_loopg [4, 9] 0 (fun gg t4 t9 wr => t4 = .slice none 0 0 ∧ t9 = .int .i64 0 ∧ wr = w1 ∧ gg = 0)
    case atStart => exact ⟨rfl, rfl, rfl, rfl⟩
    case round =>
      obtain ⟨rfl, rfl, rfl, rfl⟩ := hrel
      go_wp2_with fail
      refine (unhide HER).mono ?_
      rintro e w2 ⟨rfl, e2⟩
      subst e2
      go_wp2_with fail
      go_ret2
      show LsP r rb w (rdF1 bs) _ _
      rw [unhide HO]
      exact ⟨unhide HF2, hk0, rfl⟩
  | ok p =>
    obtain ⟨N, t0⟩ := p
    have HO : Hid (rdF1 bs = rdL N [] t0) := by unfold Hid rdF1; rw [hu]
    obtain ⟨hb0, hN⟩ := unumMost_ok (unhide HOK) hu
    have hN' : N ≤ 2000 := by omega
    rw [hu] at HCO
    simp only [gNum, rres, ↓reduceIte] at HCO
    go_enter Try.func69, Try.ntmps69
    go_wp2_with fail
    refine (unhide HCO).mono ?_
    rintro e w1 ⟨rfl, v2, hv2, f2⟩
    have HX : Hid (LQ w r rb (.slice none 0 0) [] t0 w1) := ⟨f2, by simpa [flt] using Ro.nil _ 4, (fun k e => by cases e), ⟨v2, hv2⟩, hb0, hr, hrb⟩
    clear hv2 f2 HCO
    go_wp2_with fail
    go_loopg [4, 9] N (fun gg t4 t9 wr => ∃ (i : Nat) (lv : Value) (l : List Sp) (bq : List Int), Hid (i + gg = N) ∧ t4 = lv ∧ t9 = .int .i64 (i : Int) ∧ Hid (l.length = i) ∧ Hid (LQ w r rb lv l bq wr) ∧ Hid (rdL gg l bq = rdL N [] t0))
    case atStart => exact ⟨0, _, _, _, by unfold Hid; omega, rfl, rfl, hide rfl, HX, hide rfl⟩
    case round =>
      clear HX
      obtain ⟨i, lv, l, bq, hi, hlv, rfl, hll, hL, hQ⟩ := hrel
      subst hlv
      obtain ⟨v3, hv3⟩ := (unhide hL).rd
      by_cases hlt : i < N
      · have i0 : (0 : Int) ≤ (i : Int) := by omega
        have i1 : (i : Int) < (N : Int) := by omega
        have hwz := (unhide hL).fr.size
        have HC := hide (readSpot_any r v3 bq wr hv3 (unhide hL).ok (by omega))
        obtain ⟨m, hm⟩ : ∃ m, gk = m + 1 := ⟨gk - 1, by have := unhide hi; omega⟩
        have HR : Hid (rdL N [] t0 = match rdS bq with | .error e => .error e | .ok (q, t) => rdL m (l ++ [spQ q]) t) := by rw [← unhide hQ, hm]; rfl
        clear hv3
        go_wp2_with fail
        refine (unhide HC).mono ?_
        rintro e w2 ⟨hf2, hm2⟩
        cases hs : rdS bq with
        | error k0 =>
          rw [hs] at hm2 HR
          obtain ⟨hk0, rfl⟩ := hm2
          have dk : (k0 != 0) = true := by simpa using hk0
          have HR2 := unhide HR
          dsimp only at HR2
          have HF2 := hide ((unhide hL).fr.trans hf2)
          unfold q4V q4Z
          dsimp only
          clear HC
          go_wp2_with fail
          go_ret2
          show LsP r rb w (rdF1 bs) _ _
          rw [unhide HO, HR2]
          refine ⟨?_, hk0, rfl⟩
          exact (unhide HF2).alloc _
        | ok p =>
          obtain ⟨q, t⟩ := p
          rw [hs] at hm2 HR
          obtain ⟨rfl, v4, hv4⟩ := hm2
          have HR2 := unhide HR
          dsimp only at HR2
          have hbt : BOk t := rdS_ok (unhide hL).ok hs
          have hL2 := ((unhide hL).read hf2 hv4 hbt).below (bl_one w2 (.cells #[.int .i64 q.a, .int .i64 q.b, .int .i64 q.c, .int .i64 q.d] 72))
          have HL2 := hide hL2
          have HCS := hide (spot_any (w2.alloc (.cells #[.int .i64 q.a, .int .i64 q.b, .int .i64 q.c, .int .i64 q.d] 72)) q)
          unfold q4V at HCS ⊢
          clear HC hv4 hL2
          go_wp2_with fail
          refine (unhide HCS).mono ?_
          rintro e w3 ⟨rfl, b3⟩
          have HL3 := hide ((unhide HL2).below b3)
          have HROW := hide (unhide HL3).ow
          have HLB : Hid (l.length ≤ 5864062014700) := by rw [unhide hll]; unfold Hid; omega
          unfold spV
          clear b3 HL2 HCS
          go_wp2_with (first | (at_builtin; refine appS rfl _ _ rfl _ l rfl ((unhide HROW).keep (fun g hg => Below.heap_alloc _ _ _ ((unhide HROW).lt g hg))) ⟨w3.heap.size, 0, none⟩ 1 (spQ q) rfl (new_cells _ _ _) (unhide HLB) ?_))
          intro v' w' hr' hg hat
          have HL4 := hide ((unhide HL3).push (bl_one w3 _) hr' (by rfl) hg (by simpa using hat))
          have HLL : Hid ((l ++ [spQ q]).length = i + 1) := by rw [List.length_append, unhide hll]; rfl
          clear hr' hg hat HROW HLB HL3
          go_wp2_with fail
          go_roundg m
          case measure => omega
          case rel => exact ⟨i + 1, v', _, t, by have := unhide hi; unfold Hid; omega, rfl, by go_num, HLL, HL4, HR2.symm⟩
      · have hiN : i = N := by have := unhide hi; omega
        have hg0 : gk = 0 := by have := unhide hi; omega
        subst hiN
        have hOq : rdL i [] t0 = .ok (l, bq) := by have h := unhide hQ; rw [hg0] at h; exact h.symm
        have HER := hide (rErr_any r v3 bq 0 wr hv3)
        go_wp2_with fail
        refine (unhide HER).mono ?_
        rintro e w2 ⟨rfl, e2⟩
        subst e2
        go_wp2_with fail
        go_ret2
        show LsP r rb w (rdF1 bs) _ _
        rw [unhide HO, hOq]
        exact ⟨(unhide hL).fr, _, rfl, (unhide hL).ow, (unhide hL).ob, (unhide hL).ok, v3, hv3⟩
end Go.Proofs.Ytaldacjeeccbhaa
