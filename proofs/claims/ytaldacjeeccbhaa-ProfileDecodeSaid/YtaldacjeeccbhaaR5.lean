/-
  The document's Decode.
-/
import Derived.Test.YtaldacjeeccbhaaR2
import Derived.Test.YtaldacjeeccbhaaLent
import Derived.Test.YtaldacjeeccbhaaD6
namespace Go.Proofs.Ytaldacjeeccbhaa
open Go.RowKit
set_option linter.unusedVariables false
set_option linter.unusedSimpArgs false
structure LR2 (w : World) (q qb : Nat) (v : Value) (B : List Int) (lv : Value) (l : List Sp) (pl : Nat) (wr : World) : Prop where
  fr : Fr (fun k => k = q) w wr
  ow : Ro wr 4 lv l.length (flt enS l)
  ob : ∀ k, lv.ownBlock = some k → w.heap.size ≤ k
  rd : RefR wr q qb v B pl 0
  hq : q < w.heap.size
  hb : qb < w.heap.size
section
variable {w wr w' : World} {q qb : Nat} {v lv : Value} {B : List Int} {l : List Sp} {pl pl' : Nat}
theorem LR2.read (h : LR2 w q qb v B lv l pl wr) (f : RFr q wr w') (hv : RefR w' q qb v B pl' 0) : LR2 w q qb v B lv l pl' w' :=
  ⟨h.fr.trans f, h.ow.fr f (fun k hk e => by have := h.ob k hk; have := h.hq; have e' : k = q := e; omega), h.ob, hv, h.hq, h.hb⟩
theorem LR2.below (h : LR2 w q qb v B lv l pl wr) (f : Below wr.heap.size wr w') : LR2 w q qb v B lv l pl w' :=
  ⟨h.fr.comp (Fr.of_below (S := fun _ => False) f) (fun _ _ e => e.elim), h.ow.fr (Fr.of_below (S := fun _ => False) f) (fun _ _ e => e), h.ob, h.rd.keep (S := fun _ => False) (Fr.of_below f) (by simp) (by simp), h.hq, h.hb⟩
theorem LR2.push (h : LR2 w q qb v B lv l pl wr) {w1 : World} {v' : Value} {s : Sp} (hb : Below wr.heap.size wr w1) {m : Nat} (hr : Ro w' 4 v' m (flt enS l ++ enS s)) (hm : m = l.length + 1) (hg : w1.grownBy w' lv.ownBlock) (hat : v'.ownBlock = lv.ownBlock ∨ v'.ownBlock = some w1.heap.size) : LR2 w q qb v B v' (l ++ [s]) pl w' := by
  subst hm
  have f1 : Fr (fun k => lv.ownBlock = some k) wr w' := ((Fr.of_below (S := fun k => lv.ownBlock = some k) hb)).trans ((Fr.refl _ w1).grown hg (fun k e => .inr e))
  have h1 := h.hq
  have h2 := h.hb
  have h3 := h.fr.size
  have h4 := hb.size
  refine ⟨h.fr.comp f1 (fun i hi e => by have := h.ob i e; omega), by rw [List.length_append, flt_append, flt_one]; exact hr, fun k hk => ?_, h.rd.keep f1 (fun e => by have := h.ob q e; omega) (fun b off len cap e qq => by have := h.rd.ap b off len cap e; have := h.ob b qq; omega), h.hq, h.hb⟩
  rcases hat with qq | qq
  · rw [qq] at hk; exact h.ob k hk
  · rw [qq] at hk; cases hk; omega
end
structure RM (w : World) (q qb : Nat) (v : Value) (B : List Int) (F : Nat) (gv : Value) (f : List (List Sp)) (vs : List Value) (pl : Nat) (e : Int) (wr : World) : Prop where
  bw : Below w.heap.size w wr
  b2 : wr.heap[w.heap.size]? = some (.cells #[.slice none 0 0] 24)
  b4 : wr.heap[w.heap.size + 1]? = some (.cells #[.slice none 0 0] 24)
  bf : wr.heap[F]? = some (.cells #[gv] 24)
  ow : PO (fun k => w.heap.size + 1 < k ∧ k ≠ F ∧ k ≠ q ∧ k ≠ qb) wr gv f vs
  rd : RefR wr q qb v B pl e
  hq : w.heap.size + 1 < q
  hf : w.heap.size + 1 < F
  nq : F ≠ q
  nb : F ≠ qb
  hb : qb < wr.heap.size
section
variable {w wr w1 w2 : World} {q qb F : Nat} {v gv lv v' : Value} {B : List Int} {f : List (List Sp)} {vs : List Value} {l : List Sp} {pl pl' : Nat} {e e' : Int}
theorem RM.sz (h : RM w q qb v B F gv f vs pl e wr) : w.heap.size < wr.heap.size ∧ w.heap.size + 1 < wr.heap.size ∧ F < wr.heap.size ∧ q < wr.heap.size := ⟨(blk_cells h.b2).2.2, (blk_cells h.b4).2.2, (blk_cells h.bf).2.2, h.rd.lt⟩
theorem RM.push (h : RM w q qb v B F gv f vs pl e wr) (f1 : RFr q wr w1) (hv : RefR w1 q qb v B pl' e') (hl : Ro w1 4 lv l.length (flt enS l)) (hn : ∀ k, lv.ownBlock = some k → wr.heap.size ≤ k) {X : Obj} {m : Nat}
    (hr : Ro w2 1 v' m (flt enV vs ++ enV lv)) (hm : m = f.length + 1) (hg : (w1.alloc X).grownBy w2 gv.ownBlock) (hat : v'.ownBlock = gv.ownBlock ∨ v'.ownBlock = some (w1.alloc X).heap.size) :
    RM w q qb v B F v' (f ++ [l]) (vs ++ [lv]) pl' e' (w2.setCell ⟨F, 0, none⟩ v') := by
  obtain ⟨s1, s2, s3, s4⟩ := h.sz
  have h1 := h.hq
  have h2 := h.hb
  have h3 := h.hf
  have h4 := h.nq
  have h5 := h.nb
  have hs := f1.size
  have fa : Fr (fun k => k = q) wr (w1.alloc X) := Fr.alloc f1 X
  obtain ⟨q1, q2⟩ := h.ow.pushF (S := fun k => k = q) staysR fa (fun k hk hz e => by have e' : k = q := e; exact hz.2.2.1 e') (u := l) (x := lv) (hl.keep (fun g hg => Below.heap_alloc _ _ _ (hl.lt g hg))) (fun k hk => ⟨hn k hk, by have := hl.lt k hk; simp; omega⟩) (fun k hk => ⟨by omega, by omega, by omega, by omega⟩) hr hm hg hat
  have fz : Fr (fun k => k = F) w2 (w2.setCell ⟨F, 0, none⟩ v') := Fr.setCell (S := fun k => k = F) (Fr.refl _ w2) ⟨F, 0, none⟩ (.inr rfl) v'
  have hgb : ∀ k, gv.ownBlock = some k → w.heap.size + 1 < k ∧ k ≠ F ∧ k ≠ q ∧ k ≠ qb := h.ow.rb
  have nblk : ∀ k, k < wr.heap.size → (k = w.heap.size ∨ k = w.heap.size + 1 ∨ k = F) → w2.heap[k]? = wr.heap[k]? := fun k hk hc => q2.block k hk (fun e => by
    rcases e with e | e
    · have e' : k = q := e; omega
    · have := hgb _ e; omega)
  have hq := q2.size
  have fg : Fr (fun k => gv.ownBlock = some k) (w1.alloc X) w2 := (Fr.refl _ _).grown hg (fun k e => .inr e)
  have hv1 : RefR w2 q qb v B pl' e' := (hv.keep (S := fun _ => False) ((Fr.refl _ w1).alloc X) (by simp) (by simp)).keep fg (fun e => (hgb _ e).2.2.1 rfl) (fun b off len cap e qq => (hgb _ qq).2.2.2 (hv.ap b off len cap e))
  have q3 : Below w.heap.size w w2 := h.bw.trans (q2.below h.bw.size (fun k hk e => by
    rcases e with e | e
    · have e' : k = q := e; omega
    · have := hgb _ e; omega))
  refine ⟨q3.trans (fz.below q3.size (fun k hk e => by have e' : k = F := e; omega)), (fz.block _ (by omega) (by show ¬ _ = F; omega)).trans ((nblk _ s1 (.inl rfl)).trans h.b2), (fz.block _ (by omega) (by show ¬ _ = F; omega)).trans ((nblk _ s2 (.inr (.inl rfl))).trans h.b4), ?_, q1.frZ staysR fz (fun k _ hz e => hz.2.1 e), hv1.keep fz (by show ¬ q = F; omega) (fun b off len cap e => ?_), h.hq, h.hf, h.nq, h.nb, ?_⟩
  · rw [setCell_block ((nblk _ s3 (.inr (.inr rfl))).trans h.bf) v']; rfl
  · have := hv.ap b off len cap e
    show ¬ b = F
    omega
  · have := fz.size; omega
end
theorem Rd.dropped {w : World} {b off cap : Nat} {bs : List Int} (h : Go.Proofs.Ytaldacjeeccbhaa.Rd w (.slice (some ⟨b, off, none⟩) bs.length cap) bs) (n : Nat) (hn : n ≤ bs.length) : Go.Proofs.Ytaldacjeeccbhaa.Rd w (.slice (some ⟨b, off + n, none⟩) (bs.length - n) (cap - n)) (bs.drop n) := by
  rcases h with ⟨e, _⟩ | ⟨b', off', cap', e, h1, h2, h3, h4⟩
  · cases e
  · cases e
    refine .inr ⟨b, off + n, cap - n, by rw [List.length_drop], by rw [List.length_drop]; omega, by omega, h3, fun i hi => ?_⟩
    rw [List.length_drop] at hi
    rw [Nat.add_assoc, h4 (n + i) (by omega)]
    simp [List.getD]
set_option maxRecDepth 100000 in
set_option maxHeartbeats 12800000 in
theorem refDecode_any (HRS : Hid (∀ (q : Nat) {qb : Nat} (v : Value) (B : List Int) (pl : Nat) (w : World) (h : RefR w q qb v B pl 0) (hB : BOk B) (hN : B.length ≤ 140737488355328) (hqb : qb < w.heap.size), Calls Try.prog 46 #[.pointer (some ⟨q, 0, none⟩)] w (RsP q qb v B w (rdS (B.drop pl))))) {w : World} {v : Value} {bs : List Int} (h : Go.Proofs.Ytaldacjeeccbhaa.Rd w v bs) (hB : BOk bs) (hbl : bs.length ≤ 140737488355328) : Calls Try.prog 18 #[v] w (DcP w (decP bs)) := by
  have hb2 := bl_two w (.cells #[.slice none 0 0] 24) (.cells #[.slice none 0 0] 24)
  obtain ⟨x2, x4⟩ : ((w.alloc (.cells #[.slice none 0 0] 24)).alloc (.cells #[.slice none 0 0] 24)).heap[w.heap.size]? = some (.cells #[.slice none 0 0] 24) ∧ ((w.alloc (.cells #[.slice none 0 0] 24)).alloc (.cells #[.slice none 0 0] 24)).heap[w.heap.size + 1]? = some (.cells #[.slice none 0 0] 24) := by
    constructor
    · rw [Below.heap_alloc _ _ _ (by simp)]; exact heap_alloc_new w _
    · have := heap_alloc_new (w.alloc (.cells #[.slice none 0 0] 24)) (.cells #[.slice none 0 0] 24)
      rw [World.size_alloc] at this
      exact this
  obtain ⟨w0, hw0⟩ : ∃ w0, Hid ((w.alloc (.cells #[.slice none 0 0] 24)).alloc (.cells #[.slice none 0 0] 24) = w0) := ⟨_, hide rfl⟩
  rw [unhide hw0] at hb2 x2 x4
  obtain ⟨c1, c2, c3⟩ := blk_cells x2
  obtain ⟨d1, d2, d3⟩ := blk_cells x4
  have HX2 := hide x2
  have HX4 := hide x4
  have HB0 := hide hb2
  have HOK := hide hB
  have HRD0 := hide (h.below hb2)
  have fz : ∀ W : World, Below w.heap.size w W → ∀ u, Below w.heap.size w (W.setCell ⟨w.heap.size, 0, none⟩ u) := fun W hW u => hW.trans ((Fr.setCell (S := fun k => k = w.heap.size) (Fr.refl _ W) ⟨w.heap.size, 0, none⟩ (.inr rfl) u).below hW.size (fun k hk e => by have e' : k = w.heap.size := e; omega))
  have HFZ := hide fz
  clear fz c1 c2 d1 d2 x2 x4 hb2 hB
  by_cases h4 : bs.length < 4
  · have HO : Hid (decP bs = .error 2) := by unfold Hid decP; rw [if_pos h4]
    obtain ⟨a, cap, rfl⟩ : ∃ a cap, v = .slice a bs.length cap := by
      rcases h with ⟨e1, e2⟩ | ⟨b, off, cap, e1, _⟩
      · exact ⟨none, 0, by rw [e1, e2]; rfl⟩
      · exact ⟨_, cap, e1⟩
    have d4 : decide ((bs.length : Int) < 4) = true := decide_eq_true (by omega)
    have d5 : (bs.length : Int) < 4 := by omega
    go_enter Try.func18, Try.ntmps18
    go_wp2_with fail
    refine bodyPost_ret (v := .tuple #[.agg #[.slice none 0 0], .int .i64 2]) ?_ rfl ?_
    · rw [results_cell_tmp rfl]
      go_simp
    · show DcP w (decP bs) _ _
      rw [unhide hw0]
      rw [unhide HO]
      exact ⟨unhide HB0, by decide, rfl⟩
  · obtain ⟨b, off, cap, rfl, k1, k2, k3, k4⟩ : ∃ b off cap, v = .slice (some ⟨b, off, none⟩) bs.length cap ∧ bs.length ≤ cap ∧ cap ≤ maxLen ∧ b < w.heap.size ∧ ∀ i, i < bs.length → w.cell? ⟨b, off + i, none⟩ = some (.int .u8 (bs.getD i 0)) := by
      rcases h with ⟨e1, e2⟩ | hh
      · rw [e2] at h4; simp at h4
      · exact hh
    unfold maxLen at k2
    have q0 : w.cell? ⟨b, off, none⟩ = some (.int .u8 (bs.getD 0 0)) := k4 0 (by omega)
    have q1 : w.cell? ⟨b, off + 1, none⟩ = some (.int .u8 (bs.getD 1 0)) := k4 1 (by omega)
    have q2 : w.cell? ⟨b, off + 2, none⟩ = some (.int .u8 (bs.getD 2 0)) := k4 2 (by omega)
    have q3 : w.cell? ⟨b, off + 3, none⟩ = some (.int .u8 (bs.getD 3 0)) := k4 3 (by omega)
    obtain ⟨L, hL⟩ : ∃ L, Hid (bs.length = L) := ⟨_, hide rfl⟩
    have hL4 : 4 ≤ L := by rw [← unhide hL]; omega
    have ht4 : bs.take 4 = [bs.getD 0 0, bs.getD 1 0, bs.getD 2 0, bs.getD 3 0] := by
      match bs, h4 with
      | a :: b :: c :: d :: r, _ => rfl
      | [], h => simp at h
      | [_], h => simp at h
      | [_, _], h => simp at h
      | [_, _, _], h => simp at h
    obtain ⟨s0, hs0⟩ : ∃ s, bs.getD 0 0 = s := ⟨_, rfl⟩
    obtain ⟨s1, hs1⟩ : ∃ s, bs.getD 1 0 = s := ⟨_, rfl⟩
    obtain ⟨s2, hs2⟩ : ∃ s, bs.getD 2 0 = s := ⟨_, rfl⟩
    obtain ⟨s3, hs3⟩ : ∃ s, bs.getD 3 0 = s := ⟨_, rfl⟩
    rw [hs0] at q0 ht4
    rw [hs1] at q1 ht4
    rw [hs2] at q2 ht4
    rw [hs3] at q3 ht4
    have d4 : decide ((L : Int) < 4) = false := decide_eq_false (by omega)
    have d5 : ¬ (L : Int) < 4 := by omega
    have o1 : (1 : Int) < (L : Int) := by omega
    have o2 : (2 : Int) < (L : Int) := by omega
    have o3 : (3 : Int) < (L : Int) := by omega
    have o0 : (0 : Int) < (L : Int) := by omega
    have o4 : (4 : Int) ≤ (L : Int) := by omega
    have k1' : L ≤ cap := by rw [← unhide hL]; exact k1
    rw [unhide hL] at HRD0 ⊢
    clear hs0 hs1 hs2 hs3 k4
    by_cases hsg : bs.take 4 = sgn4
    · have HO0 : Hid (decP bs = decT (bs.drop 4)) := by unfold Hid decP; rw [if_neg h4, if_pos hsg]
      rw [ht4] at hsg
      simp only [sgn4, List.cons.injEq, and_true] at hsg
      obtain ⟨rfl, rfl, rfl, rfl⟩ := hsg
      obtain ⟨sv, hsv, hrs⟩ : ∃ sv, (∀ W, (Instr.sliceAt 33 (.slice (some ⟨b, off, none⟩) L cap) (some (.int .i64 4)) none none).run Try.prog W = .ok sv W) ∧ Go.Proofs.Ytaldacjeeccbhaa.Rd w0 sv (bs.drop 4) := by
        by_cases hc4 : cap = 4
        · have hl4 : L = 4 := by omega
          subst hc4
          subst hl4
          refine ⟨.slice (some ⟨b, off, none⟩) 0 0, fun W => by go_simp, ?_⟩
          have e : bs.drop 4 = [] := List.eq_nil_of_length_eq_zero (by rw [List.length_drop, unhide hL])
          rw [e]
          exact .inr ⟨b, off, 0, rfl, Nat.le_refl _, Nat.zero_le _, Nat.lt_of_lt_of_le k3 (unhide HB0).size, fun i hi => by simp at hi⟩
        · refine ⟨.slice (some ⟨b, off + 4, none⟩) (L - 4) (cap - 4), fun W => by go_simp, ?_⟩
          have q := unhide HRD0
          rw [← unhide hL] at q ⊢
          exact q.dropped 4 (by omega)
      have HRT := hide (refRead_any w.heap.size sv (bs.drop 4) w0 hrs (by rw [List.length_drop]; omega) c3)
      clear hrs
      have HOKd : Hid (BOk (bs.drop 4)) := fun x hx => unhide HOK x (List.mem_of_mem_drop hx)
      have hbl4 : (bs.drop 4).length ≤ 140737488355328 := by rw [List.length_drop]; omega
      go_enter Try.func18, Try.ntmps18
      go_wp2_with fail
      rw [unhide hw0]
      clear q0 q1 q2 q3 hw0 hsv
      refine (unhide HRT).mono ?_
      rintro e w1 ⟨q, qb, v1, rfl, hq1, hqb1, hqb2, hr1, b1⟩
      have hws := (unhide HB0).size
      have HX21 := hide ((b1.block _ c3).trans (unhide HX2))
      have HX41 := hide ((b1.block _ d3).trans (unhide HX4))
      have HB1 := hide (bl_past (unhide HB0) (b1.mono (Nat.le_refl _)))
      have HR1 := hide hr1
      have hs1 := b1.size
      have HCO := hide (refCount_any q v1 (bs.drop 4) 0 0 128 w1 hr1 (unhide HOKd) hbl4 (by omega))
      rw [List.drop_zero] at HCO
      obtain ⟨B, hBB⟩ : ∃ B, Hid (bs.drop 4 = B) := ⟨_, hide rfl⟩
      rw [unhide hBB] at HCO HR1 HOKd hbl4 HO0
      clear HRT b1 hr1 HRD0 HX2 HX4
      cases hu : unumMost 128 B with
      | error k0 =>
        have hk0 := unumMost_err hu
        have dk : (k0 != 0) = true := by simpa using hk0
        have dk2 : (k0 == 0) = false := by simpa using hk0
        have HO : Hid (decP bs = .error k0) := by unfold Hid; rw [unhide HO0]; unfold decT; rw [hu]
        rw [hu] at HCO
        simp only [gNum, rres, ↓reduceIte] at HCO
        go_wp2_with fail
        refine (unhide HCO).mono ?_
        rintro e w2 ⟨rfl, p2, hr2, hp2, f2⟩
        dsimp only at hr2 hp2 ⊢
        have HY2 := hide ((f2.block w.heap.size (by omega) (by show ¬ w.heap.size = q; omega)).trans (unhide HX21))
        have HY4 := hide ((f2.block (w.heap.size + 1) (by omega) (by show ¬ w.heap.size + 1 = q; omega)).trans (unhide HX41))
        have HB2 : Hid (Below w.heap.size w w2) := (unhide HB1).trans (f2.below (unhide HB1).size (fun k hk e => by have e' : k = q := e; omega))
        have HEN := hide (refEnd_any q v1 B p2 k0 (w2.alloc (.cells #[.slice none 0 0] 24)) (hr2.keep (S := fun _ => False) ((Fr.refl _ w2).alloc _) (by simp) (by simp)))
        rw [show rEnd (B.drop p2) k0 = k0 by unfold rEnd; rw [if_neg hk0]] at HEN
        obtain ⟨w3, hw3⟩ : ∃ w3, Hid (w2.alloc (.cells #[.slice none 0 0] 24) = w3) := ⟨_, hide rfl⟩
        have hb3 := bl_one w2 (.cells #[.slice none 0 0] 24)
        rw [unhide hw3] at HEN hb3
        clear HCO hr2 f2
        go_wp2_with fail
        rw [unhide hw3]
        go_loopg [8] 0 (fun gg t8 wr => t8 = .int .i64 0 ∧ wr = w3 ∧ gg = 0)
        case atStart => exact ⟨rfl, rfl, rfl⟩
        case round =>
          obtain ⟨rfl, hwr, rfl⟩ := hrel
          subst hwr
          go_wp2_with fail
          refine (unhide HEN).mono ?_
          rintro e w4 ⟨rfl, n4, hn4⟩
          have b4 : Below wr.heap.size wr w4 := by rw [hn4]; exact bl_drewN wr n4
          have b24 := bl_past hb3 b4
          obtain ⟨c1, c2, c3'⟩ := blk_cells ((b24.block _ (blk_cells (unhide HY2)).2.2).trans (unhide HY2))
          obtain ⟨d1, d2, d3'⟩ := blk_cells ((b24.block _ (blk_cells (unhide HY4)).2.2).trans (unhide HY4))
          have y0 := c1 0
          have yf := c2 0
          have u0 := d1 0
          simp at y0 u0
          have HB4 := hide (bl_past (unhide HB2) b24)
          clear HEN hn4 b4 b24 c1 c2 d1 d2
          go_wp2_with fail
          refine bodyPost_ret (v := .tuple #[.agg #[.slice none 0 0], .int .i64 k0]) ?_ rfl ?_
          · rw [results_cell_tmp rfl]
            go_simp
          · show DcP w (decP bs) _ _
            rw [unhide HO]
            exact ⟨unhide HFZ _ (unhide HB4) _, hk0, rfl⟩
      | ok p =>
        obtain ⟨N, t0⟩ := p
        obtain ⟨hb0, hN⟩ := unumMost_ok (unhide HOKd) hu
        have hN' : N ≤ 128 := by omega
        have HO1 : Hid (decP bs = match rdM N [] t0 with | .error k => .error k | .ok (f, t') => if t'.length = 0 then .ok f else .error 3) := by
          unfold Hid; rw [unhide HO0]; unfold decT; rw [hu]
          rfl
        rw [hu] at HCO
        simp only [gNum, rres, ↓reduceIte] at HCO
        go_wp2_with fail
        refine (unhide HCO).mono ?_
        rintro e w2 ⟨rfl, p2, hr2, hp2, f2⟩
        dsimp only at hr2 hp2 ⊢
        have hy2 := (f2.block w.heap.size (by omega) (by show ¬ w.heap.size = q; omega)).trans (unhide HX21)
        have hy4 := (f2.block (w.heap.size + 1) (by omega) (by show ¬ w.heap.size + 1 = q; omega)).trans (unhide HX41)
        have hb2 : Below w.heap.size w w2 := (unhide HB1).trans (f2.below (unhide HB1).size (fun k hk e => by have e' : k = q := e; omega))
        have hs2 := f2.size
        have HX : Hid (RM w q qb v1 B w2.heap.size (.slice none 0 0) [] [] p2 0 (w2.alloc (.cells #[.slice none 0 0] 24))) :=
          ⟨bl_past hb2 (bl_one w2 _), (Below.heap_alloc _ _ _ (blk_cells hy2).2.2).trans hy2, (Below.heap_alloc _ _ _ (blk_cells hy4).2.2).trans hy4, heap_alloc_new w2 _, OW.nil _, hr2.keep (S := fun _ => False) ((Fr.refl _ w2).alloc _) (by simp) (by simp), by omega, by omega, by have := hr2.lt; omega, by omega, by simp; omega⟩
        obtain ⟨F, hF⟩ : ∃ F, Hid (w2.heap.size = F) := ⟨_, hide rfl⟩
        clear HCO hr2 f2 hy2 hy4 hb2 HX21 HX41
        go_wp2_with fail
        rw [unhide hF] at HX ⊢
        go_loopg [8] N (fun gg t8 wr => ∃ (i : Nat) (gv : Value) (f : List (List Sp)) (vs : List Value) (pl : Nat) (e0 : Int), Hid (i + gg = N) ∧ t8 = .int .i64 (i : Int) ∧ Hid (f.length = i) ∧ Hid (RM w q qb v1 B F gv f vs pl e0 wr) ∧ ((e0 = 0 ∧ Hid (rdM gg f (B.drop pl) = rdM N [] t0)) ∨ (e0 ≠ 0 ∧ Hid (rdM N [] t0 = .error e0))))
        case atStart => exact ⟨0, _, _, _, _, 0, by unfold Hid; omega, rfl, hide rfl, HX, .inl ⟨rfl, hide (by rw [hp2])⟩⟩
        case round =>
          clear HX
          obtain ⟨i, gv, f, vs, pl, e0, hi, rfl, hff, hM, hQ⟩ := hrel
          obtain ⟨ga, gc, eg, _, _⟩ := (unhide hM).ow.row.shape
          subst eg
          have ec := (unhide hM).rd.c2
          have eq := (unhide hM).rd.lt
          have i0 : (0 : Int) ≤ (i : Int) := by omega
          rcases hQ with ⟨he, hQ⟩ | ⟨he, hQ⟩
          · subst he
            by_cases hlt : i < N
            · have i1 : (i : Int) < (N : Int) := by omega
              have HC := hide (refCount_any q v1 B pl 0 2000 wr (unhide hM).rd (unhide HOKd) hbl4 (by omega))
              obtain ⟨m, hm⟩ : ∃ m, gk = m + 1 := ⟨gk - 1, by have := unhide hi; omega⟩
              have HRM : Hid (rdM N [] t0 = thn (rdF1 (B.drop pl)) (fun l t => rdM m (f ++ [l]) t)) := by rw [← unhide hQ, hm, rdM_thn]; exact rfl
              obtain ⟨G0, hG0⟩ : ∃ G0 : Nat, Hid (G0 = gk) := ⟨_, hide rfl⟩
              cases hu2 : unumMost 2000 (B.drop pl) with
              | error k0 =>
                have hk0 := unumMost_err hu2
                have HE : Hid (rdM N [] t0 = .error k0) := by unfold Hid; rw [unhide HRM, rdF1_thn, hu2]; rfl
                rw [hu2] at HC
                simp only [gNum, rres, ↓reduceIte] at HC
                go_wp2_with fail
                refine (unhide HC).mono ?_
                rintro e w5 ⟨rfl, p5, hr5, hp5, f5⟩
                dsimp only at hr5 hp5 ⊢
                have ec5 := hr5.c2
                have eq5 := hr5.lt
                have HR5 := hide hr5
                have HF5 := hide f5
                clear HC ec eq hr5 f5
                go_wp2_with fail
                go_loopg [10, 11] 0 (fun gg t10 t11 wq => t10 = .slice none 0 0 ∧ t11 = .int .i64 0 ∧ wq = w5 ∧ gg = 0)
                case atStart => exact ⟨rfl, rfl, rfl, rfl⟩
                case round =>
                  obtain ⟨rfl, rfl, hwq, rfl⟩ := hrel
                  subst hwq
                  have hb55 := ((unhide HF5).block F (unhide hM).sz.2.2.1 (by show ¬ F = q; exact (unhide hM).nq)).trans (unhide hM).bf
                  obtain ⟨c1, c2, c3'⟩ := blk_cells hb55
                  have y0 := c1 0
                  have g0 := c2 0
                  simp at y0
                  have hgb : ∀ k, (Value.slice ga f.length gc).ownBlock = some k → w.heap.size + 1 < k ∧ k ≠ F ∧ k ≠ q ∧ k ≠ qb := (unhide hM).ow.rb
                  have hvl := (unhide hM).ow.len
                  have HROW : Hid (Ro wr 1 (.slice ga f.length gc) vs.length (flt enV vs)) := by
                    rw [hvl]
                    exact (unhide hM).ow.row.fr (unhide HF5) (fun k hk e => (hgb k hk).2.2.1 e)
                  have HLB : Hid (vs.length ≤ 5864062014700) := by rw [hvl, unhide hff]; unfold Hid; omega
                  have HPB : Hid (∀ X w6, (wr.alloc X).grownBy w6 (Value.slice ga f.length gc).ownBlock → w6.heap[F]? = wr.heap[F]?) := fun X w6 hg => by
                    have fg : Fr (fun k => (Value.slice ga f.length gc).ownBlock = some k) wr w6 := ((Fr.refl _ wr).alloc X).grown hg (fun k e => .inr e)
                    exact fg.block F c3' (fun e => (hgb F e).2.1 rfl)
                  have HPU := hide (fun v' w6 X m hr hm' hg hat => (unhide hM).push (v' := v') (w2 := w6) (X := X) (m := m) (lv := .slice none 0 0) (l := ([] : List Sp)) (unhide HF5) (unhide HR5) (by simpa [flt] using Ro.nil _ 4) (fun k e => by cases e) hr hm' hg hat)
                  have HVF := hide hvl
                  clear hgb c1 c2 hb55 hvl
                  go_wp2_with (first | (at_builtin; refine appR rfl _ _ rfl _ vs rfl ((unhide HROW).keep (fun g hg => Below.heap_alloc _ _ _ ((unhide HROW).lt g hg))) ⟨wr.heap.size, 0, none⟩ 1 (.slice none 0 0) rfl rfl (new_cells _ _ _) (unhide HLB) ?_))
                  intro v' w6 hr' hg hat
                  obtain ⟨va, vc, ev, _, _⟩ := hr'.shape
                  subst ev
                  have hp6 := unhide HPB _ w6 hg
                  have y0' : w6.cell? ⟨F, 0, none⟩ = some (.slice ga f.length gc) := (World.cell?_of_block hp6).trans y0
                  have g0' : w6.frozen? ⟨F, 0, none⟩ = false := (World.frozen?_of_block hp6).trans g0
                  have c3'' : F < w6.heap.size := Nat.lt_of_lt_of_le c3' (Nat.le_trans (by simp) hg.size)
                  have HM2 := hide (unhide HPU _ w6 _ _ hr' (by rw [unhide HVF]) hg (by simpa using hat))
                  have HFF : Hid ((f ++ [([] : List Sp)]).length = i + 1) := by rw [List.length_append, unhide hff]; rfl
                  clear hr' hg hat HROW HLB HPB HPU hp6 y0 g0 c3' hM
                  go_wp2_with fail
                  go_roundg m
                  case measure => have := unhide hG0; omega
                  case rel => exact ⟨i + 1, _, _, _, p5, k0, by have := unhide hi; unfold Hid; omega, by go_num, HFF, HM2, .inr ⟨hk0, HE⟩⟩
              | ok p =>
                obtain ⟨M, t1⟩ := p
                obtain ⟨hb1', hM1⟩ := unumMost_ok (fun x hx => unhide HOKd x (List.mem_of_mem_drop hx)) hu2
                have hM' : M ≤ 2000 := by omega
                have HRL : Hid (rdM N [] t0 = thn (rdL M [] t1) (fun l t => rdM m (f ++ [l]) t)) := by unfold Hid; rw [unhide HRM, rdF1_thn, hu2]; rfl
                rw [hu2] at HC
                simp only [gNum, rres, ↓reduceIte] at HC
                go_wp2_with fail
                refine (unhide HC).mono ?_
                rintro e w5 ⟨rfl, p5, hr5, hp5, f5⟩
                dsimp only at hr5 hp5 ⊢
                have HL0 : Hid (LR2 wr q qb v1 B (.slice none 0 0) [] p5 w5) := ⟨f5, by simpa [flt] using Ro.nil _ 4, (fun k e => by cases e), hr5, (unhide hM).rd.lt, (unhide hM).hb⟩
                obtain ⟨Y, hY⟩ : ∃ Y : World, Y = wr := ⟨_, rfl⟩
                subst hY
                clear HC ec eq hr5 f5
                go_wp2_with fail
                go_loopg [10, 11] M (fun gg t10 t11 wq => ∃ (j : Nat) (lv : Value) (l : List Sp) (pj : Nat), Hid (j + gg = M) ∧ t10 = lv ∧ t11 = .int .i64 (j : Int) ∧ Hid (l.length = j) ∧ Hid (LR2 Y q qb v1 B lv l pj wq) ∧ Hid (rdL gg l (B.drop pj) = rdL M [] t1))
                case atStart => exact ⟨0, _, _, _, by unfold Hid; omega, rfl, rfl, hide rfl, HL0, hide (by rw [hp5])⟩
                case round =>
                  clear HL0
                  obtain ⟨j, lv, l, pj, hj, hlv, rfl, hll, hL, hQ2⟩ := hrel
                  subst hlv
                  obtain ⟨la, lc, el, _, _⟩ := (unhide hL).ow.shape
                  subst el
                  have ec := (unhide hL).rd.c2
                  have eq := (unhide hL).rd.lt
                  have j0 : (0 : Int) ≤ (j : Int) := by omega
                  by_cases hjt : j < M
                  · have j1 : (j : Int) < (M : Int) := by omega
                    have hwz := (unhide hL).fr.size
                    have HC := hide (unhide HRS q v1 B pj wr (unhide hL).rd (unhide HOKd) hbl4 (by have := (unhide hL).hb; omega))
                    obtain ⟨m2, hm2⟩ : ∃ m2, gk = m2 + 1 := ⟨gk - 1, by have := unhide hj; omega⟩
                    have HR3 : Hid (rdL M [] t1 = thn (rdS (B.drop pj)) (fun s t => rdL m2 (l ++ [spQ s]) t)) := by rw [← unhide hQ2, hm2, rdL_thn]; exact rfl
                    go_wp2_with fail
                    refine (unhide HC).mono ?_
                    rintro e w7 ⟨f7, hm7⟩
                    cases hs7 : rdS (B.drop pj) with
                    | error k0 =>
                      rw [hs7] at hm7
                      obtain ⟨hk0, xc, xa, xb, xd, rfl⟩ := hm7
                      have dk : (k0 != 0) = true := by simpa using hk0
                      have HO : Hid (decP bs = .error k0) := by
                        have h1 : rdM N [] t0 = .error k0 := by rw [unhide HRL, unhide HR3, hs7]; rfl
                        unfold Hid; rw [unhide HO1, h1]
                      have fY := (unhide hL).fr.trans f7
                      have hqw := (unhide hM).hq
                      have hy2 := (fY.block _ (unhide hM).sz.1 (by show ¬ w.heap.size = q; omega)).trans (unhide hM).b2
                      have hy4 := (fY.block _ (unhide hM).sz.2.1 (by show ¬ w.heap.size + 1 = q; omega)).trans (unhide hM).b4
                      obtain ⟨c1, c2, c3'⟩ := blk_cells hy2
                      obtain ⟨d1, d2, d3'⟩ := blk_cells hy4
                      have y0 := c1 0
                      have yf := c2 0
                      have u0 := d1 0
                      simp at y0 u0
                      have HB7 : Hid (Below w.heap.size w w7) := (unhide hM).bw.trans (fY.below (unhide hM).bw.size (fun k hk e => by have e' : k = q := e; omega))
                      clear HC c1 c2 d1 d2 hy2 hy4 ec eq
                      go_wp2_with fail
                      refine bodyPost_ret (v := .tuple #[.agg #[.slice none 0 0], .int .i64 k0]) ?_ rfl ?_
                      · rw [results_cell_tmp rfl]
                        go_simp
                      · show DcP w (decP bs) _ _
                        rw [unhide HO]
                        refine ⟨?_, hk0, rfl⟩
                        first
                          | exact unhide HFZ _ (bl_past (unhide HB7) (bl_one w7 _)) _
                          | exact bl_past (unhide HFZ _ (unhide HB7) _) (bl_one _ _)
                    | ok p =>
                      obtain ⟨s, t⟩ := p
                      rw [hs7] at hm7
                      obtain ⟨rfl, p7, hr7, hp7⟩ := hm7
                      have HR4 : Hid (rdL m2 (l ++ [spQ s]) (B.drop p7) = rdL M [] t1) := by unfold Hid; rw [unhide HR3, hs7, hp7]; rfl
                      have HL2 := hide (((unhide hL).read f7 hr7).below (bl_one w7 (.cells (enS (spQ s)).toArray 55)))
                      have HROW := hide (unhide HL2).ow
                      have HLB : Hid (l.length ≤ 5864062014700) := by rw [unhide hll]; unfold Hid; omega
                      obtain ⟨w8, hw8⟩ : ∃ w8, Hid (w7.alloc (.cells (enS (spQ s)).toArray 55) = w8) := ⟨_, hide rfl⟩
                      obtain ⟨sp, hsp⟩ : ∃ sp, Hid (spQ s = sp) := ⟨_, hide rfl⟩
                      rw [unhide hw8] at HL2 HROW
                      rw [unhide hsp] at HR4 hw8 ⊢
                      unfold spV
                      have hw8' : w7.alloc (.cells #[.int .i64 sp.c, .int .u16 sp.a, .int .u16 sp.b, .int .i64 sp.k] 55) = w8 := unhide hw8
                      obtain ⟨c1, c2, c3'⟩ := blk_cells (show w8.heap[w7.heap.size]? = some (.cells #[.int .i64 sp.c, .int .u16 sp.a, .int .u16 sp.b, .int .i64 sp.k] 55) by rw [← hw8']; exact heap_alloc_new w7 _)
                      have x0 := c1 0
                      have x1 := c1 1
                      have x2 := c1 2
                      have x3 := c1 3
                      simp at x0 x1 x2 x3
                      clear HC ec eq c1 c2
                      go_wp2_with (first | (at_builtin; refine appS rfl _ _ rfl _ l rfl ((unhide HROW).keep (fun g hg => Below.heap_alloc _ _ _ ((unhide HROW).lt g hg))) ⟨w8.heap.size, 0, none⟩ 1 sp rfl (new_cells _ _ _) (unhide HLB) ?_))
                      intro v' w' hr' hg hat
                      have HL4 := hide ((unhide HL2).push (bl_one w8 _) hr' (by rfl) hg (by simpa using hat))
                      have HLL : Hid ((l ++ [sp]).length = j + 1) := by rw [List.length_append, unhide hll]; rfl
                      clear hr' hg hat HROW HLB HL2 hw8' hw8 x0 x1 x2 x3
                      go_wp2_with fail
                      go_roundg m2
                      case measure => omega
                      case rel => exact ⟨j + 1, v', _, p7, by have := unhide hj; unfold Hid; omega, rfl, by go_num, HLL, HL4, HR4⟩
                  · have hjM : j = M := by have := unhide hj; omega
                    have hg0 : gk = 0 := by have := unhide hj; omega
                    subst hjM
                    have hdL : rdL j [] t1 = .ok (l, B.drop pj) := by have h1 := unhide hQ2; rw [hg0] at h1; exact h1.symm
                    have HRN : Hid (rdM m (f ++ [l]) (B.drop pj) = rdM N [] t0) := by unfold Hid; rw [unhide HRL, hdL]; rfl
                    clear hg0
                    have hb55 := ((unhide hL).fr.block F (unhide hM).sz.2.2.1 (by show ¬ F = q; exact (unhide hM).nq)).trans (unhide hM).bf
                    obtain ⟨c1, c2, c3'⟩ := blk_cells hb55
                    have y0 := c1 0
                    have g0 := c2 0
                    simp at y0
                    have hgb : ∀ k, (Value.slice ga f.length gc).ownBlock = some k → w.heap.size + 1 < k ∧ k ≠ F ∧ k ≠ q ∧ k ≠ qb := (unhide hM).ow.rb
                    have hvl := (unhide hM).ow.len
                    have HROW : Hid (Ro wr 1 (.slice ga f.length gc) vs.length (flt enV vs)) := by
                      rw [hvl]
                      exact (unhide hM).ow.row.fr (unhide hL).fr (fun k hk e => (hgb k hk).2.2.1 e)
                    have HLB : Hid (vs.length ≤ 5864062014700) := by rw [hvl, unhide hff]; unfold Hid; omega
                    have HPB : Hid (∀ X w6, (wr.alloc X).grownBy w6 (Value.slice ga f.length gc).ownBlock → w6.heap[F]? = wr.heap[F]?) := fun X w6 hg => by
                      have fg : Fr (fun k => (Value.slice ga f.length gc).ownBlock = some k) wr w6 := ((Fr.refl _ wr).alloc X).grown hg (fun k e => .inr e)
                      exact fg.block F c3' (fun e => (hgb F e).2.1 rfl)
                    have HPU := hide (fun v' w6 X m hr hm' hg hat => (unhide hM).push (v' := v') (w2 := w6) (X := X) (m := m) (lv := .slice la l.length lc) (l := l) (unhide hL).fr (unhide hL).rd (unhide hL).ow (unhide hL).ob hr hm' hg hat)
                    have HVF := hide hvl
                    clear hgb c1 c2 hb55 hvl
                    go_wp2_with (first | (at_builtin; refine appR rfl _ _ rfl _ vs rfl ((unhide HROW).keep (fun g hg => Below.heap_alloc _ _ _ ((unhide HROW).lt g hg))) ⟨wr.heap.size, 0, none⟩ 1 (.slice la l.length lc) rfl rfl (new_cells _ _ _) (unhide HLB) ?_))
                    intro v' w6 hr' hg hat
                    obtain ⟨va, vc, ev, _, _⟩ := hr'.shape
                    subst ev
                    have hp6 := unhide HPB _ w6 hg
                    have y0' : w6.cell? ⟨F, 0, none⟩ = some (.slice ga f.length gc) := (World.cell?_of_block hp6).trans y0
                    have g0' : w6.frozen? ⟨F, 0, none⟩ = false := (World.frozen?_of_block hp6).trans g0
                    have c3'' : F < w6.heap.size := Nat.lt_of_lt_of_le c3' (Nat.le_trans (by simp) hg.size)
                    have HM2 := hide (unhide HPU _ w6 _ _ hr' (by rw [unhide HVF]) hg (by simpa using hat))
                    have HFF : Hid ((f ++ [l]).length = i + 1) := by rw [List.length_append, unhide hff]; rfl
                    clear hr' hg hat HROW HLB HPB HPU hp6 y0 g0 c3' hM
                    go_wp2_with fail
                    go_roundg m
                    case measure => have := unhide hG0; omega
                    case rel => exact ⟨i + 1, _, _, _, pj, 0, by have := unhide hi; unfold Hid; omega, by go_num, HFF, HM2, .inl ⟨rfl, HRN⟩⟩
            · have hiN : i = N := by have := unhide hi; omega
              have hg0 : gk = 0 := by have := unhide hi; omega
              subst hiN
              have hOq : rdM i [] t0 = .ok (f, B.drop pl) := by have h1 := unhide hQ; rw [hg0] at h1; exact h1.symm
              have HEN := hide (refEnd_any q v1 B pl 0 wr (unhide hM).rd)
              by_cases hz : (B.drop pl).length = 0
              · have HO : Hid (decP bs = .ok f) := by unfold Hid; rw [unhide HO1, hOq]; dsimp only; rw [if_pos hz]
                rw [show rEnd (B.drop pl) 0 = 0 by unfold rEnd; rw [if_pos rfl, if_pos hz]] at HEN
                go_wp2_with fail
                refine (unhide HEN).mono ?_
                rintro e w4 ⟨rfl, n4, hn4⟩
                have b4 : Below wr.heap.size wr w4 := by rw [hn4]; exact bl_drewN wr n4
                obtain ⟨c1, c2, c3'⟩ := blk_cells ((b4.block _ (blk_cells (unhide hM).b2).2.2).trans (unhide hM).b2)
                obtain ⟨d1, d2, d3'⟩ := blk_cells ((b4.block _ (blk_cells (unhide hM).bf).2.2).trans (unhide hM).bf)
                have y0 := c1 0
                have yf := c2 0
                have u0 := d1 0
                simp at y0 u0
                have HB4 := hide (bl_past (unhide hM).bw b4)
                have HOW := hide ((unhide hM).ow.below staysR b4)
                clear HEN hn4 b4 c1 c2 d1 d2
                go_wp2_with fail
                refine bodyPost_ret (v := .tuple #[.agg #[.slice ga f.length gc], .int .i64 0]) ?_ rfl ?_
                · rw [results_cell_tmp rfl]
                  go_simp
                · show DcP w (decP bs) _ _
                  rw [unhide HO]
                  refine ⟨unhide HFZ _ (unhide HB4) _, _, vs, rfl, ?_⟩
                  have fz : Fr (fun k => k = w.heap.size) w4 (w4.setCell ⟨w.heap.size, 0, none⟩ (.slice ga f.length gc)) := Fr.setCell (S := fun k => k = w.heap.size) (Fr.refl _ w4) ⟨w.heap.size, 0, none⟩ (.inr rfl) _
                  exact ((unhide HOW).frZ staysR fz (fun k _ hk e => by have e' : k = w.heap.size := e; omega)).mono (fun k _ hk => by have := hk.1; show w.heap.size < k; omega)
              · have HO : Hid (decP bs = .error 3) := by unfold Hid; rw [unhide HO1, hOq]; dsimp only; rw [if_neg hz]
                rw [show rEnd (B.drop pl) 0 = 3 by unfold rEnd; rw [if_pos rfl, if_neg hz]] at HEN
                go_wp2_with fail
                refine (unhide HEN).mono ?_
                rintro e w4 ⟨rfl, n4, hn4⟩
                have b4 : Below wr.heap.size wr w4 := by rw [hn4]; exact bl_drewN wr n4
                obtain ⟨c1, c2, c3'⟩ := blk_cells ((b4.block _ (blk_cells (unhide hM).b2).2.2).trans (unhide hM).b2)
                obtain ⟨d1, d2, d3'⟩ := blk_cells ((b4.block _ (blk_cells (unhide hM).b4).2.2).trans (unhide hM).b4)
                have y0 := c1 0
                have yf := c2 0
                have u0 := d1 0
                simp at y0 u0
                have HB4 := hide (bl_past (unhide hM).bw b4)
                clear HEN hn4 b4 c1 c2 d1 d2
                go_wp2_with fail
                refine bodyPost_ret (v := .tuple #[.agg #[.slice none 0 0], .int .i64 3]) ?_ rfl ?_
                · rw [results_cell_tmp rfl]
                  go_simp
                · show DcP w (decP bs) _ _
                  rw [unhide HO]
                  exact ⟨unhide HFZ _ (unhide HB4) _, by decide, rfl⟩
          · have HO : Hid (decP bs = .error e0) := by unfold Hid; rw [unhide HO1, unhide hQ]
            have dk : (e0 != 0) = true := by simpa using he
            have dk2 : (e0 == 0) = false := by simpa using he
            have HEN := hide (refEnd_any q v1 B pl e0 wr (unhide hM).rd)
            rw [show rEnd (B.drop pl) e0 = e0 by unfold rEnd; rw [if_neg he]] at HEN
            by_cases hlt : i < N
            · have i1 : (i : Int) < (N : Int) := by omega
              go_wp2_with fail
              refine (unhide HEN).mono ?_
              rintro e w4 ⟨rfl, n4, hn4⟩
              have b4 : Below wr.heap.size wr w4 := by rw [hn4]; exact bl_drewN wr n4
              obtain ⟨c1, c2, c3'⟩ := blk_cells ((b4.block _ (blk_cells (unhide hM).b2).2.2).trans (unhide hM).b2)
              obtain ⟨d1, d2, d3'⟩ := blk_cells ((b4.block _ (blk_cells (unhide hM).b4).2.2).trans (unhide hM).b4)
              have y0 := c1 0
              have yf := c2 0
              have u0 := d1 0
              simp at y0 u0
              have HB4 := hide (bl_past (unhide hM).bw b4)
              clear HEN hn4 b4 c1 c2 d1 d2
              go_wp2_with fail
              refine bodyPost_ret (v := .tuple #[.agg #[.slice none 0 0], .int .i64 e0]) ?_ rfl ?_
              · rw [results_cell_tmp rfl]
                go_simp
              · show DcP w (decP bs) _ _
                rw [unhide HO]
                exact ⟨unhide HFZ _ (unhide HB4) _, he, rfl⟩
            · have i1 : ¬ (i : Int) < (N : Int) := by omega
              go_wp2_with fail
              refine (unhide HEN).mono ?_
              rintro e w4 ⟨rfl, n4, hn4⟩
              have b4 : Below wr.heap.size wr w4 := by rw [hn4]; exact bl_drewN wr n4
              obtain ⟨c1, c2, c3'⟩ := blk_cells ((b4.block _ (blk_cells (unhide hM).b2).2.2).trans (unhide hM).b2)
              obtain ⟨d1, d2, d3'⟩ := blk_cells ((b4.block _ (blk_cells (unhide hM).b4).2.2).trans (unhide hM).b4)
              have y0 := c1 0
              have yf := c2 0
              have u0 := d1 0
              simp at y0 u0
              have HB4 := hide (bl_past (unhide hM).bw b4)
              clear HEN hn4 b4 c1 c2 d1 d2
              go_wp2_with fail
              refine bodyPost_ret (v := .tuple #[.agg #[.slice none 0 0], .int .i64 e0]) ?_ rfl ?_
              · rw [results_cell_tmp rfl]
                go_simp
              · show DcP w (decP bs) _ _
                rw [unhide HO]
                exact ⟨unhide HFZ _ (unhide HB4) _, he, rfl⟩
    · have HO : Hid (decP bs = .error 4) := by unfold Hid decP; rw [if_neg h4, if_neg hsg]
      rw [ht4] at hsg
      simp only [sgn4, List.cons.injEq, and_true] at hsg
      by_cases n0 : s0 = 80
      · have e0 : (s0 != 80) = false := by simpa using n0
        by_cases n1 : s1 = 84
        · have e1 : (s1 != 84) = false := by simpa using n1
          by_cases n2 : s2 = 70
          · have e2 : (s2 != 70) = false := by simpa using n2
            have n3 : ¬ s3 = 1 := fun e => hsg ⟨n0, n1, n2, e⟩
            have e3 : (s3 != 1) = true := by simpa using n3
            go_enter Try.func18, Try.ntmps18
            go_wp2_with fail
            refine bodyPost_ret (v := .tuple #[.agg #[.slice none 0 0], .int .i64 4]) ?_ rfl ?_
            · rw [results_cell_tmp rfl]
              go_simp
            · show DcP w (decP bs) _ _
              rw [unhide hw0]
              rw [unhide HO]
              exact ⟨unhide HB0, by decide, rfl⟩
          · have e2 : (s2 != 70) = true := by simpa using n2
            go_enter Try.func18, Try.ntmps18
            go_wp2_with fail
            refine bodyPost_ret (v := .tuple #[.agg #[.slice none 0 0], .int .i64 4]) ?_ rfl ?_
            · rw [results_cell_tmp rfl]
              go_simp
            · show DcP w (decP bs) _ _
              rw [unhide hw0]
              rw [unhide HO]
              exact ⟨unhide HB0, by decide, rfl⟩
        · have e1 : (s1 != 84) = true := by simpa using n1
          go_enter Try.func18, Try.ntmps18
          go_wp2_with fail
          refine bodyPost_ret (v := .tuple #[.agg #[.slice none 0 0], .int .i64 4]) ?_ rfl ?_
          · rw [results_cell_tmp rfl]
            go_simp
          · show DcP w (decP bs) _ _
            rw [unhide hw0]
            rw [unhide HO]
            exact ⟨unhide HB0, by decide, rfl⟩
      · have e0 : (s0 != 80) = true := by simpa using n0
        go_enter Try.func18, Try.ntmps18
        go_wp2_with fail
        refine bodyPost_ret (v := .tuple #[.agg #[.slice none 0 0], .int .i64 4]) ?_ rfl ?_
        · rw [results_cell_tmp rfl]
          go_simp
        · show DcP w (decP bs) _ _
          rw [unhide hw0]
          rw [unhide HO]
          exact ⟨unhide HB0, by decide, rfl⟩

end Go.Proofs.Ytaldacjeeccbhaa
