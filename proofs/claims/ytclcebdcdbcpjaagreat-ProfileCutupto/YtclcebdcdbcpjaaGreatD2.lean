/-
  A spot is read.
-/
import Derived.Test.YtclcebdcdbcpjaaGreatD1
import Derived.Test.YtclcebdcdbcpjaaGreatPB
import Derived.Laws.ResultCell
namespace Go.Proofs.YtclcebdcdbcpjaaGreat
open Go.RowKit
set_option linter.unusedVariables false
set_option linter.unusedSimpArgs false
theorem Fr.comp {S S' : Nat → Prop} {a b c : World} (h : Fr S a b) (k : Fr S' b c) (hs : ∀ i, i < a.heap.size → S' i → S i) : Fr S a c :=
  ⟨k.os.trans h.os, k.tape.trans h.tape, k.output.trans h.output, Nat.le_trans h.size k.size,
    fun i hi hn => (k.block i (Nat.lt_of_lt_of_le hi h.size) (fun e => hn (hs i hi e))).trans (h.block i hi hn)⟩
/-- Four numbers. -/
structure Q4 where
  a : Int
  b : Int
  c : Int
  d : Int
def Q4.put (q : Q4) (k : Nat) (x : Int) : Q4 := if k = 0 then { q with a := x } else if k = 1 then { q with b := x } else if k = 2 then { q with c := x } else { q with d := x }
def q4V (q : Q4) : Value := .agg #[.int .i64 q.a, .int .i64 q.b, .int .i64 q.c, .int .i64 q.d]
def q4Z : Q4 := ⟨0, 0, 0, 0⟩
def pw (k : Nat) : Int := if k = 0 then 1 else if k = 1 then 2 else if k = 2 then 4 else 8
def btB (fl : Int) (k : Nat) : Bool := !(bits .and .u8 fl (pw k) == 0)
/-- The last n fields. -/
def rdG (fl : Int) : Nat → Q4 → List Int → Except Int (Q4 × List Int)
  | 0, q, bs => .ok (q, bs)
  | n + 1, q, bs => if btB fl (3 - n) = true then (match rdF (3 - n) bs with | .error e => .error e | .ok (x, t) => rdG fl n (q.put (3 - n) x) t) else rdG fl n q bs
def rdS : List Int → Except Int (Q4 × List Int)
  | [] => .error 2
  | b :: t => if 16 ≤ b then .error 4 else rdG b 4 q4Z t
theorem rdF_ok {k : Nat} {bs t : List Int} {x : Int} (h : BOk bs) (e : rdF k bs = .ok (x, t)) : BOk t := by
  unfold rdF at e
  cases hu : unum 0 0 bs with
  | error k => rw [hu] at e; cases e
  | ok p =>
    obtain ⟨y, t'⟩ := p
    rw [hu] at e
    dsimp only at e
    split at e
    · cases e
    · split at e
      · cases e
        exact (unum_lt 0 0 bs _ _ (by omega) (by omega) h hu).2
      · cases e
/-- While a spot is read: two boxes of four cells; the reader. -/
structure SQ (w : World) (r rb B : Nat) (q : Q4) (bs : List Int) (e0 : Int) (wr : World) : Prop where
  fr : Fr (fun k => k = r) w wr
  b2 : wr.heap[w.heap.size]? = some (.cells #[.int .i64 0, .int .i64 0, .int .i64 0, .int .i64 0] 75)
  b5 : wr.heap[B]? = some (.cells #[.int .i64 q.a, .int .i64 q.b, .int .i64 q.c, .int .i64 q.d] 75)
  hB : w.heap.size < B
  hr : r < w.heap.size
  hb : rb < w.heap.size
  rd : ∃ v, Rdr wr r rb v bs e0
  ok : BOk bs
section
variable {w wr w' : World} {r rb B : Nat} {q : Q4} {bs t : List Int} {e0 : Int}
theorem SQ.read (h : SQ w r rb B q bs e0 wr) (f : RFr r wr w') : w'.heap[w.heap.size]? = some (.cells #[.int .i64 0, .int .i64 0, .int .i64 0, .int .i64 0] 75) ∧ Fr (fun k => k = r) w w' ∧ w'.heap[B]? = some (.cells #[.int .i64 q.a, .int .i64 q.b, .int .i64 q.c, .int .i64 q.d] 75) := by
  have h1 := (blk_cells h.b2).2.2
  have h2 := (blk_cells h.b5).2.2
  have h3 := h.hr
  have h4 := h.hB
  exact ⟨(f.block _ h1 (by show ¬ w.heap.size = r; omega)).trans h.b2, h.fr.trans f, (f.block _ h2 (by show ¬ B = r; omega)).trans h.b5⟩
theorem SQ.field (h : SQ w r rb B q bs 0 wr) (f : RFr r wr w') {v : Value} (hv : Rdr w' r rb v t 0) (hk : BOk t) : SQ w r rb B q t 0 w' := by
  obtain ⟨q1, q2, q3⟩ := h.read f
  exact ⟨q2, q1, q3, h.hB, h.hr, h.hb, ⟨v, hv⟩, hk⟩
theorem SQ.set (h : SQ w r rb B q bs e0 wr) {q' : Q4} (f : Fr (fun k => k = B) wr w') (h5 : w'.heap[B]? = some (.cells #[.int .i64 q'.a, .int .i64 q'.b, .int .i64 q'.c, .int .i64 q'.d] 75)) : SQ w r rb B q' bs e0 w' := by
  have h1 := (blk_cells h.b2).2.2
  have h3 := h.hr
  have h4 := h.hB
  have h6 := h.hb
  obtain ⟨v, hv⟩ := h.rd
  refine ⟨h.fr.comp f (fun i hi e => by omega), (f.block _ h1 (by show ¬ w.heap.size = B; omega)).trans h.b2, h5, h.hB, h.hr, h.hb, ⟨v, hv.keep f (by show ¬ r = B; omega) (fun b off len cap e => ?_)⟩, h.ok⟩
  have := hv.ap b off len cap e
  show ¬ b = B
  omega
theorem SQ.put0 (h : SQ w r rb B q bs e0 wr) (x : Int) : SQ w r rb B (q.put 0 x) bs e0 (wr.setCell ⟨B, 0, none⟩ (.int .i64 x)) :=
  h.set (Fr.setCell (S := fun k => k = B) (Fr.refl _ wr) ⟨B, 0, none⟩ (.inr rfl) _) (by rw [setCell_block h.b5 (.int .i64 x)]; rfl)
theorem SQ.put1 (h : SQ w r rb B q bs e0 wr) (x : Int) : SQ w r rb B (q.put 1 x) bs e0 (wr.setCell ⟨B, 1, none⟩ (.int .i64 x)) :=
  h.set (Fr.setCell (S := fun k => k = B) (Fr.refl _ wr) ⟨B, 1, none⟩ (.inr rfl) _) (by rw [setCell_block h.b5 (.int .i64 x)]; rfl)
theorem SQ.put2 (h : SQ w r rb B q bs e0 wr) (x : Int) : SQ w r rb B (q.put 2 x) bs e0 (wr.setCell ⟨B, 2, none⟩ (.int .i64 x)) :=
  h.set (Fr.setCell (S := fun k => k = B) (Fr.refl _ wr) ⟨B, 2, none⟩ (.inr rfl) _) (by rw [setCell_block h.b5 (.int .i64 x)]; rfl)
theorem SQ.put3 (h : SQ w r rb B q bs e0 wr) (x : Int) : SQ w r rb B (q.put 3 x) bs e0 (wr.setCell ⟨B, 3, none⟩ (.int .i64 x)) :=
  h.set (Fr.setCell (S := fun k => k = B) (Fr.refl _ wr) ⟨B, 3, none⟩ (.inr rfl) _) (by rw [setCell_block h.b5 (.int .i64 x)]; rfl)
end
theorem rdG_zero (q : Q4) (bs : List Int) : rdG 0 4 q bs = .ok (q, bs) := rfl
theorem box_four {V : World} {k : Nat} {a b c d : Value} {t : TypeId} (h : V.heap[k]? = some (.cells #[a, b, c, d] t)) (x y z u : Value) :
    ((((V.setCell ⟨k, 0, none⟩ x).setCell ⟨k, 1, none⟩ y).setCell ⟨k, 2, none⟩ z).setCell ⟨k, 3, none⟩ u).heap[k]? = some (.cells #[x, y, z, u] t) ∧ Fr (fun i => i = k) V ((((V.setCell ⟨k, 0, none⟩ x).setCell ⟨k, 1, none⟩ y).setCell ⟨k, 2, none⟩ z).setCell ⟨k, 3, none⟩ u) := by
  refine ⟨?_, ((((Fr.refl (fun i => i = k) V).setCell ⟨k, 0, none⟩ (.inr rfl) x).setCell ⟨k, 1, none⟩ (.inr rfl) y).setCell ⟨k, 2, none⟩ (.inr rfl) z).setCell ⟨k, 3, none⟩ (.inr rfl) u⟩
  rw [setCell_block (setCell_block (setCell_block (setCell_block h x) y) z) u]
  rfl
def fin4 (o : Except Int (Q4 × List Int)) (e0 : Int) : Except Int (Q4 × List Int) := if e0 = 0 then o else .error e0
def SpP (r rb : Nat) (w : World) (o : Except Int (Q4 × List Int)) (e : Ending) (w' : World) : Prop := RFr r w w' ∧
  match o with
  | .error k => k ≠ 0 ∧ e = .returned (.tuple #[q4V q4Z, .int .i64 k])
  | .ok (q, t) => e = .returned (.tuple #[q4V q, .int .i64 0]) ∧ ∃ v2, Rdr w' r rb v2 t 0
set_option maxRecDepth 100000 in
set_option maxHeartbeats 12800000 in
theorem readSpot_any (r : Nat) {rb : Nat} (v : Value) (bs : List Int) (w : World) (h : Rdr w r rb v bs 0) (hB : BOk bs) (hrb : rb < w.heap.size) :
    Calls Tryz.prog 68 #[.pointer (some ⟨r, 0, none⟩)] w (SpP r rb w (rdS bs)) := by
  have hr := h.lt
  have HRB := hide (rByte_any r v bs 0 (w.alloc (.cells #[.int .i64 0, .int .i64 0, .int .i64 0, .int .i64 0] 75)) (h.alloc _))
  have hb2 := heap_alloc_new w (.cells #[.int .i64 0, .int .i64 0, .int .i64 0, .int .i64 0] 75)
  have HFR0 := hide ((Fr.refl (fun k => k = r) w).alloc (.cells #[.int .i64 0, .int .i64 0, .int .i64 0, .int .i64 0] 75))
  have HB2 := hide hb2
  have HOK := hide hB
  clear h hB hb2
  go_enter Tryz.func68, Tryz.ntmps68
  go_wp2_with fail
  refine (unhide HRB).mono ?_
  rintro e w2 ⟨rfl, v2, hv2, f2⟩
  have hbx := (f2.block w.heap.size (by simp) (by show ¬ w.heap.size = r; omega)).trans (unhide HB2)
  have HF2 := hide ((unhide HFR0).trans f2)
  have hsz : w.heap.size < w2.heap.size := (blk_cells hbx).2.2
  clear HRB HFR0 HB2 f2
  obtain ⟨fl, e0, b2, hval, hrd, hbk, he, h0, h1, hO⟩ : ∃ (fl e0 : Int) (b2 : List Int), (rres (.int .u8 0) (gByte bs) bs 0).1 = .int .u8 fl ∧ Rdr w2 r rb v2 b2 e0 ∧ BOk b2 ∧ (e0 = 0 ∨ fl = 0) ∧ 0 ≤ fl ∧ fl < 256 ∧ rdS bs = if 16 ≤ fl then .error 4 else fin4 (rdG fl 4 q4Z b2) e0 := by
    cases bs with
    | nil => exact ⟨0, 2, [], rfl, hv2, unhide HOK, .inr rfl, by omega, by omega, rfl⟩
    | cons b t => exact ⟨b, 0, t, rfl, hv2, fun x hx => unhide HOK x (List.mem_cons_of_mem _ hx), .inl rfl, (unhide HOK b (by simp)).1, (unhide HOK b (by simp)).2, rfl⟩
  rw [hval]
  have HOS := hide hO
  have HRD := hide hrd
  have HBK := hide hbk
  clear hval hO hv2 hrd hbk HOK
  by_cases h16 : 16 ≤ fl
  · have d16 : decide (fl ≥ 16) = true := decide_eq_true h16
    obtain ⟨c1, c2, c3⟩ := blk_cells hbx
    have v0 := c1 0
    have v1 := c1 1
    have v2' := c1 2
    have v3 := c1 3
    have g0 := c2 0
    have g1 := c2 1
    have g2 := c2 2
    have g3 := c2 3
    simp at v0 v1 v2' v3
    clear c1 c2
    go_wp2_with fail
    refine bodyPost_ret (v := .tuple #[.agg #[.int .i64 0, .int .i64 0, .int .i64 0, .int .i64 0], .int .i64 4]) ?_ rfl ?_
    · rw [results_cell_tmp rfl]
      go_simp
    · show SpP r rb w (rdS bs) _ _
      rw [unhide HOS, if_pos h16]
      refine ⟨?_, by decide, rfl⟩
      exact (unhide HF2).comp (((((Fr.refl (fun i => i = w.heap.size) _).setCell ⟨w.heap.size, 0, none⟩ (.inr rfl) _).setCell ⟨w.heap.size, 1, none⟩ (.inr rfl) _).setCell ⟨w.heap.size, 2, none⟩ (.inr rfl) _).setCell ⟨w.heap.size, 3, none⟩ (.inr rfl) _) (fun i hi e => by omega)
  · rw [if_neg h16] at HOS
    have d16 : decide (fl ≥ 16) = false := decide_eq_false h16
    obtain ⟨O, hOO⟩ : ∃ O, Hid (rdG fl 4 q4Z b2 = O) := ⟨_, hide rfl⟩
    have hOr := hOO
    rw [unhide hOO] at HOS
    have HX : Hid (SQ w r rb w2.heap.size q4Z b2 e0 (w2.alloc (.cells #[.int .i64 0, .int .i64 0, .int .i64 0, .int .i64 0] 75))) := ⟨(unhide HF2).alloc _, (Below.heap_alloc _ _ _ hsz).trans hbx, heap_alloc_new w2 _, hsz, hr, hrb, ⟨v2, (unhide HRD).alloc _⟩, unhide HBK⟩
    obtain ⟨B, hBB⟩ : ∃ B, Hid (w2.heap.size = B) := ⟨_, hide rfl⟩
    go_wp2_with fail
    rw [unhide hBB] at HX ⊢
    clear hbx HF2 HRD HBK h0 h1 d16 h16
    go_loopg [14] 4 (fun gg t14 wr => ∃ (k : Nat) (q : Q4) (bs' : List Int), Hid (k + gg = 4) ∧ t14 = .int .i64 (k : Int) ∧ Hid (SQ w r rb B q bs' e0 wr) ∧ Hid (rdG fl gg q bs' = O))
    case atStart => exact ⟨0, _, _, by unfold Hid; omega, rfl, HX, hOO⟩
    case round =>
      clear HX hOO
      obtain ⟨k, q, bq, hi, rfl, hS, hO⟩ := hrel
      by_cases hlt : k < 4
      · obtain rfl | rfl | rfl | rfl : k = 0 ∨ k = 1 ∨ k = 2 ∨ k = 3 := by omega
        · have hp : pw 0 = 1 := rfl
          have ek : gk = 4 := by have := unhide hi; omega
          by_cases hbt : bits .and .u8 fl 1 = 0
          · have db : (bits .and .u8 fl 1 == 0) = true := by simpa using hbt
            have HG' : Hid (rdG fl 3 q bq = O) := by have h := unhide hO; rw [ek] at h; unfold rdG at h; rw [if_neg (by show ¬ btB fl 0 = true; unfold btB; rw [hp, db]; simp)] at h; exact h
            go_wp2_with fail
            go_roundg (gk - 1)
            case measure => omega
            case rel => exact ⟨0 + 1, q, bq, by unfold Hid; omega, by go_num, hS, by rw [ek]; exact HG'⟩
          · have db : (bits .and .u8 fl 1 == 0) = false := by simpa using hbt
            have he0 : e0 = 0 := by
              rcases he with h | h
              · exact h
              · exact absurd (by rw [h]; rfl) hbt
            subst he0
            obtain ⟨v3, hv3⟩ := (unhide hS).rd
            have HC := hide (readField_any 0 (by omega) r v3 bq wr hv3 (unhide hS).ok)
            have HGO : Hid (O = match rdF 0 bq with | .error e => .error e | .ok (x, t) => rdG fl 3 (q.put 0 x) t) := by have h := unhide hO; rw [ek] at h; unfold rdG at h; rw [if_pos (by show btB fl 0 = true; unfold btB; rw [hp, db]; rfl)] at h; exact h.symm
            go_wp2_with fail
            refine (unhide HC).mono ?_
            rintro e w3 ⟨hf3, hm⟩
            cases hrd : rdF 0 bq with
            | error k0 =>
              rw [hrd] at hm HGO
              obtain ⟨hk0, rfl⟩ := hm
              have dk : (k0 != 0) = true := by simpa using hk0
              have HO2 := unhide HGO
              dsimp only at HO2
              have hS3 := (unhide hS).read hf3
              obtain ⟨c1, c2, c3⟩ := blk_cells hS3.1
              have v0 := c1 0
              have v1 := c1 1
              have v2 := c1 2
              have v3 := c1 3
              have g0 := c2 0
              have g1 := c2 1
              have g2 := c2 2
              have g3 := c2 3
              simp at v0 v1 v2 v3
              have HF3 := hide hS3.2.1
              clear c1 c2 hS3
              go_wp2_with fail
              refine bodyPost_ret (v := .tuple #[.agg #[.int .i64 0, .int .i64 0, .int .i64 0, .int .i64 0], .int .i64 k0]) ?_ rfl ?_
              · rw [results_cell_tmp rfl]
                go_simp
              · show SpP r rb w (rdS bs) _ _
                rw [unhide HOS, HO2, fin4, if_pos rfl]
                refine ⟨?_, hk0, rfl⟩
                exact (unhide HF3).comp (((((Fr.refl (fun i => i = w.heap.size) _).setCell ⟨w.heap.size, 0, none⟩ (.inr rfl) _).setCell ⟨w.heap.size, 1, none⟩ (.inr rfl) _).setCell ⟨w.heap.size, 2, none⟩ (.inr rfl) _).setCell ⟨w.heap.size, 3, none⟩ (.inr rfl) _) (fun i hi e => by omega)
            | ok p =>
              obtain ⟨x, t⟩ := p
              rw [hrd] at hm HGO
              obtain ⟨rfl, v4, hv4⟩ := hm
              have HO2 := unhide HGO
              dsimp only at HO2
              have hbk : BOk t := rdF_ok (unhide hS).ok hrd
              have hS3 := hide ((unhide hS).field hf3 hv4 hbk)
              obtain ⟨c1, c2, c3⟩ := blk_cells (unhide hS3).b5
              have v0 := c1 0
              have g0 := c2 0
              simp at v0
              have hS4 := hide ((unhide hS3).put0 x)
              clear c1 c2
              go_wp2_with fail
              go_roundg (gk - 1)
              case measure => omega
              case rel => exact ⟨0 + 1, q.put 0 x, t, by unfold Hid; omega, by go_num, hS4, by rw [ek]; exact HO2.symm⟩
        · have hp : pw 1 = 2 := rfl
          have ek : gk = 3 := by have := unhide hi; omega
          by_cases hbt : bits .and .u8 fl 2 = 0
          · have db : (bits .and .u8 fl 2 == 0) = true := by simpa using hbt
            have HG' : Hid (rdG fl 2 q bq = O) := by have h := unhide hO; rw [ek] at h; unfold rdG at h; rw [if_neg (by show ¬ btB fl 1 = true; unfold btB; rw [hp, db]; simp)] at h; exact h
            go_wp2_with fail
            go_roundg (gk - 1)
            case measure => omega
            case rel => exact ⟨1 + 1, q, bq, by unfold Hid; omega, by go_num, hS, by rw [ek]; exact HG'⟩
          · have db : (bits .and .u8 fl 2 == 0) = false := by simpa using hbt
            have he0 : e0 = 0 := by
              rcases he with h | h
              · exact h
              · exact absurd (by rw [h]; rfl) hbt
            subst he0
            obtain ⟨v3, hv3⟩ := (unhide hS).rd
            have HC := hide (readField_any 1 (by omega) r v3 bq wr hv3 (unhide hS).ok)
            have HGO : Hid (O = match rdF 1 bq with | .error e => .error e | .ok (x, t) => rdG fl 2 (q.put 1 x) t) := by have h := unhide hO; rw [ek] at h; unfold rdG at h; rw [if_pos (by show btB fl 1 = true; unfold btB; rw [hp, db]; rfl)] at h; exact h.symm
            go_wp2_with fail
            refine (unhide HC).mono ?_
            rintro e w3 ⟨hf3, hm⟩
            cases hrd : rdF 1 bq with
            | error k0 =>
              rw [hrd] at hm HGO
              obtain ⟨hk0, rfl⟩ := hm
              have dk : (k0 != 0) = true := by simpa using hk0
              have HO2 := unhide HGO
              dsimp only at HO2
              have hS3 := (unhide hS).read hf3
              obtain ⟨c1, c2, c3⟩ := blk_cells hS3.1
              have v0 := c1 0
              have v1 := c1 1
              have v2 := c1 2
              have v3 := c1 3
              have g0 := c2 0
              have g1 := c2 1
              have g2 := c2 2
              have g3 := c2 3
              simp at v0 v1 v2 v3
              have HF3 := hide hS3.2.1
              clear c1 c2 hS3
              go_wp2_with fail
              refine bodyPost_ret (v := .tuple #[.agg #[.int .i64 0, .int .i64 0, .int .i64 0, .int .i64 0], .int .i64 k0]) ?_ rfl ?_
              · rw [results_cell_tmp rfl]
                go_simp
              · show SpP r rb w (rdS bs) _ _
                rw [unhide HOS, HO2, fin4, if_pos rfl]
                refine ⟨?_, hk0, rfl⟩
                exact (unhide HF3).comp (((((Fr.refl (fun i => i = w.heap.size) _).setCell ⟨w.heap.size, 0, none⟩ (.inr rfl) _).setCell ⟨w.heap.size, 1, none⟩ (.inr rfl) _).setCell ⟨w.heap.size, 2, none⟩ (.inr rfl) _).setCell ⟨w.heap.size, 3, none⟩ (.inr rfl) _) (fun i hi e => by omega)
            | ok p =>
              obtain ⟨x, t⟩ := p
              rw [hrd] at hm HGO
              obtain ⟨rfl, v4, hv4⟩ := hm
              have HO2 := unhide HGO
              dsimp only at HO2
              have hbk : BOk t := rdF_ok (unhide hS).ok hrd
              have hS3 := hide ((unhide hS).field hf3 hv4 hbk)
              obtain ⟨c1, c2, c3⟩ := blk_cells (unhide hS3).b5
              have v0 := c1 1
              have g0 := c2 1
              simp at v0
              have hS4 := hide ((unhide hS3).put1 x)
              clear c1 c2
              go_wp2_with fail
              go_roundg (gk - 1)
              case measure => omega
              case rel => exact ⟨1 + 1, q.put 1 x, t, by unfold Hid; omega, by go_num, hS4, by rw [ek]; exact HO2.symm⟩
        · have hp : pw 2 = 4 := rfl
          have ek : gk = 2 := by have := unhide hi; omega
          by_cases hbt : bits .and .u8 fl 4 = 0
          · have db : (bits .and .u8 fl 4 == 0) = true := by simpa using hbt
            have HG' : Hid (rdG fl 1 q bq = O) := by have h := unhide hO; rw [ek] at h; unfold rdG at h; rw [if_neg (by show ¬ btB fl 2 = true; unfold btB; rw [hp, db]; simp)] at h; exact h
            go_wp2_with fail
            go_roundg (gk - 1)
            case measure => omega
            case rel => exact ⟨2 + 1, q, bq, by unfold Hid; omega, by go_num, hS, by rw [ek]; exact HG'⟩
          · have db : (bits .and .u8 fl 4 == 0) = false := by simpa using hbt
            have he0 : e0 = 0 := by
              rcases he with h | h
              · exact h
              · exact absurd (by rw [h]; rfl) hbt
            subst he0
            obtain ⟨v3, hv3⟩ := (unhide hS).rd
            have HC := hide (readField_any 2 (by omega) r v3 bq wr hv3 (unhide hS).ok)
            have HGO : Hid (O = match rdF 2 bq with | .error e => .error e | .ok (x, t) => rdG fl 1 (q.put 2 x) t) := by have h := unhide hO; rw [ek] at h; unfold rdG at h; rw [if_pos (by show btB fl 2 = true; unfold btB; rw [hp, db]; rfl)] at h; exact h.symm
            go_wp2_with fail
            refine (unhide HC).mono ?_
            rintro e w3 ⟨hf3, hm⟩
            cases hrd : rdF 2 bq with
            | error k0 =>
              rw [hrd] at hm HGO
              obtain ⟨hk0, rfl⟩ := hm
              have dk : (k0 != 0) = true := by simpa using hk0
              have HO2 := unhide HGO
              dsimp only at HO2
              have hS3 := (unhide hS).read hf3
              obtain ⟨c1, c2, c3⟩ := blk_cells hS3.1
              have v0 := c1 0
              have v1 := c1 1
              have v2 := c1 2
              have v3 := c1 3
              have g0 := c2 0
              have g1 := c2 1
              have g2 := c2 2
              have g3 := c2 3
              simp at v0 v1 v2 v3
              have HF3 := hide hS3.2.1
              clear c1 c2 hS3
              go_wp2_with fail
              refine bodyPost_ret (v := .tuple #[.agg #[.int .i64 0, .int .i64 0, .int .i64 0, .int .i64 0], .int .i64 k0]) ?_ rfl ?_
              · rw [results_cell_tmp rfl]
                go_simp
              · show SpP r rb w (rdS bs) _ _
                rw [unhide HOS, HO2, fin4, if_pos rfl]
                refine ⟨?_, hk0, rfl⟩
                exact (unhide HF3).comp (((((Fr.refl (fun i => i = w.heap.size) _).setCell ⟨w.heap.size, 0, none⟩ (.inr rfl) _).setCell ⟨w.heap.size, 1, none⟩ (.inr rfl) _).setCell ⟨w.heap.size, 2, none⟩ (.inr rfl) _).setCell ⟨w.heap.size, 3, none⟩ (.inr rfl) _) (fun i hi e => by omega)
            | ok p =>
              obtain ⟨x, t⟩ := p
              rw [hrd] at hm HGO
              obtain ⟨rfl, v4, hv4⟩ := hm
              have HO2 := unhide HGO
              dsimp only at HO2
              have hbk : BOk t := rdF_ok (unhide hS).ok hrd
              have hS3 := hide ((unhide hS).field hf3 hv4 hbk)
              obtain ⟨c1, c2, c3⟩ := blk_cells (unhide hS3).b5
              have v0 := c1 2
              have g0 := c2 2
              simp at v0
              have hS4 := hide ((unhide hS3).put2 x)
              clear c1 c2
              go_wp2_with fail
              go_roundg (gk - 1)
              case measure => omega
              case rel => exact ⟨2 + 1, q.put 2 x, t, by unfold Hid; omega, by go_num, hS4, by rw [ek]; exact HO2.symm⟩
        · have hp : pw 3 = 8 := rfl
          have ek : gk = 1 := by have := unhide hi; omega
          by_cases hbt : bits .and .u8 fl 8 = 0
          · have db : (bits .and .u8 fl 8 == 0) = true := by simpa using hbt
            have HG' : Hid (rdG fl 0 q bq = O) := by have h := unhide hO; rw [ek] at h; unfold rdG at h; rw [if_neg (by show ¬ btB fl 3 = true; unfold btB; rw [hp, db]; simp)] at h; exact h
            go_wp2_with fail
            go_roundg (gk - 1)
            case measure => omega
            case rel => exact ⟨3 + 1, q, bq, by unfold Hid; omega, by go_num, hS, by rw [ek]; exact HG'⟩
          · have db : (bits .and .u8 fl 8 == 0) = false := by simpa using hbt
            have he0 : e0 = 0 := by
              rcases he with h | h
              · exact h
              · exact absurd (by rw [h]; rfl) hbt
            subst he0
            obtain ⟨v3, hv3⟩ := (unhide hS).rd
            have HC := hide (readField_any 3 (by omega) r v3 bq wr hv3 (unhide hS).ok)
            have HGO : Hid (O = match rdF 3 bq with | .error e => .error e | .ok (x, t) => rdG fl 0 (q.put 3 x) t) := by have h := unhide hO; rw [ek] at h; unfold rdG at h; rw [if_pos (by show btB fl 3 = true; unfold btB; rw [hp, db]; rfl)] at h; exact h.symm
            go_wp2_with fail
            refine (unhide HC).mono ?_
            rintro e w3 ⟨hf3, hm⟩
            cases hrd : rdF 3 bq with
            | error k0 =>
              rw [hrd] at hm HGO
              obtain ⟨hk0, rfl⟩ := hm
              have dk : (k0 != 0) = true := by simpa using hk0
              have HO2 := unhide HGO
              dsimp only at HO2
              have hS3 := (unhide hS).read hf3
              obtain ⟨c1, c2, c3⟩ := blk_cells hS3.1
              have v0 := c1 0
              have v1 := c1 1
              have v2 := c1 2
              have v3 := c1 3
              have g0 := c2 0
              have g1 := c2 1
              have g2 := c2 2
              have g3 := c2 3
              simp at v0 v1 v2 v3
              have HF3 := hide hS3.2.1
              clear c1 c2 hS3
              go_wp2_with fail
              refine bodyPost_ret (v := .tuple #[.agg #[.int .i64 0, .int .i64 0, .int .i64 0, .int .i64 0], .int .i64 k0]) ?_ rfl ?_
              · rw [results_cell_tmp rfl]
                go_simp
              · show SpP r rb w (rdS bs) _ _
                rw [unhide HOS, HO2, fin4, if_pos rfl]
                refine ⟨?_, hk0, rfl⟩
                exact (unhide HF3).comp (((((Fr.refl (fun i => i = w.heap.size) _).setCell ⟨w.heap.size, 0, none⟩ (.inr rfl) _).setCell ⟨w.heap.size, 1, none⟩ (.inr rfl) _).setCell ⟨w.heap.size, 2, none⟩ (.inr rfl) _).setCell ⟨w.heap.size, 3, none⟩ (.inr rfl) _) (fun i hi e => by omega)
            | ok p =>
              obtain ⟨x, t⟩ := p
              rw [hrd] at hm HGO
              obtain ⟨rfl, v4, hv4⟩ := hm
              have HO2 := unhide HGO
              dsimp only at HO2
              have hbk : BOk t := rdF_ok (unhide hS).ok hrd
              have hS3 := hide ((unhide hS).field hf3 hv4 hbk)
              obtain ⟨c1, c2, c3⟩ := blk_cells (unhide hS3).b5
              have v0 := c1 3
              have g0 := c2 3
              simp at v0
              have hS4 := hide ((unhide hS3).put3 x)
              clear c1 c2
              go_wp2_with fail
              go_roundg (gk - 1)
              case measure => omega
              case rel => exact ⟨3 + 1, q.put 3 x, t, by unfold Hid; omega, by go_num, hS4, by rw [ek]; exact HO2.symm⟩
      · have hk4 : k = 4 := by have := unhide hi; omega
        subst hk4
        have hg0 : gk = 0 := by have := unhide hi; omega
        have hOq : O = .ok (q, bq) := by have h := unhide hO; rw [hg0] at h; exact h.symm
        obtain ⟨v3, hv3⟩ := (unhide hS).rd
        have HSS := hide (unhide hS)
        obtain ⟨c1, c2, c3⟩ := blk_cells (unhide hS).b5
        have HSD : Hid (wr.drew.cell? ⟨B, 0, none⟩ = some (.int .i64 q.a) ∧ wr.drew.cell? ⟨B, 1, none⟩ = some (.int .i64 q.b) ∧ wr.drew.cell? ⟨B, 2, none⟩ = some (.int .i64 q.c) ∧ wr.drew.cell? ⟨B, 3, none⟩ = some (.int .i64 q.d)) := ⟨c1 0, c1 1, c1 2, c1 3⟩
        have hrv : Rdr wr.drew r rb v3 bq e0 := hv3.keep (S := fun _ => False) (Fr.refl _ wr).drew (by simp) (by simp)
        have hb2v : wr.drew.heap[w.heap.size]? = some (.cells #[.int .i64 0, .int .i64 0, .int .i64 0, .int .i64 0] 75) := (unhide hS).b2
        have hfrv : Fr (fun k => k = r) w wr.drew := (unhide hS).fr.drew
        have c3' : B < wr.drew.heap.size := c3
        obtain ⟨V, hV⟩ : ∃ V, Hid (wr.drew = V) := ⟨_, hide rfl⟩
        have HSV := HSD
        rw [unhide hV] at HSV hrv hb2v hfrv c3'
        have HER := hide (rErr_any r v3 bq e0 V hrv)
        obtain ⟨d1, d2, d3⟩ := blk_cells hb2v
        have v0 := d1 0
        have v1 := d1 1
        have v2' := d1 2
        have v3' := d1 3
        have g0 := d2 0
        have g1 := d2 1
        have g2 := d2 2
        have g3 := d2 3
        simp at v0 v1 v2' v3'
        have hBw := (unhide hS).hB
        have hrw := (unhide hS).hr
        have hbw := (unhide hS).hb
        obtain ⟨q1, q2⟩ := box_four hb2v (.int .i64 q.a) (.int .i64 q.b) (.int .i64 q.c) (.int .i64 q.d)
        obtain ⟨Z, hZ⟩ : ∃ Z, Hid ((((V.setCell ⟨w.heap.size, 0, none⟩ (.int .i64 q.a)).setCell ⟨w.heap.size, 1, none⟩ (.int .i64 q.b)).setCell ⟨w.heap.size, 2, none⟩ (.int .i64 q.c)).setCell ⟨w.heap.size, 3, none⟩ (.int .i64 q.d) = Z) := ⟨_, hide rfl⟩
        rw [unhide hZ] at q1 q2
        have nB : ¬ (B = w.heap.size) := by omega
        have HSz : Hid (Z.cell? ⟨B, 0, none⟩ = some (.int .i64 q.a) ∧ Z.cell? ⟨B, 1, none⟩ = some (.int .i64 q.b) ∧ Z.cell? ⟨B, 2, none⟩ = some (.int .i64 q.c) ∧ Z.cell? ⟨B, 3, none⟩ = some (.int .i64 q.d)) := ⟨(q2.cell (a := ⟨B, 0, none⟩) c3' nB).trans (unhide HSV).1, (q2.cell (a := ⟨B, 1, none⟩) c3' nB).trans (unhide HSV).2.1, (q2.cell (a := ⟨B, 2, none⟩) c3' nB).trans (unhide HSV).2.2.1, (q2.cell (a := ⟨B, 3, none⟩) c3' nB).trans (unhide HSV).2.2.2⟩
        have HRZ : Hid (Rdr Z r rb v3 bq e0) := hrv.keep q2 (by show ¬ r = w.heap.size; omega) (fun b off len cap e => by have := hrv.ap b off len cap e; show ¬ b = w.heap.size; omega)
        have HFZ : Hid (Fr (fun k => k = r) w Z) := hfrv.comp q2 (fun i hi e => by omega)
        obtain ⟨y1, y2, y3⟩ := blk_cells q1
        have m0 := y1 0
        have m1 := y1 1
        have m2 := y1 2
        have m3 := y1 3
        simp at m0 m1 m2 m3
        clear c1 c2 d1 d2 y1 y2 q1 q2 hv3 hS HSS hrv hb2v hfrv nB
        go_wp2_with fail
        refine wp_region_held_drew (S := (fun W => W.cell? ⟨B, 0, none⟩ = some (.int .i64 q.a) ∧ W.cell? ⟨B, 1, none⟩ = some (.int .i64 q.b) ∧ W.cell? ⟨B, 2, none⟩ = some (.int .i64 q.c) ∧ W.cell? ⟨B, 3, none⟩ = some (.int .i64 q.d))) (by kernel_rfl) (unhide HSD) (fun hHeld => ?_)
        clear hHeld
        rw [unhide hV]
        refine wpAnyH_take (i := 0) (oi := _) (v := .agg #[.int .i64 q.a, .int .i64 q.b, .int .i64 q.c, .int .i64 q.d]) rfl (by kernel_rfl) (by kernel_rfl) (by kernel_rfl) (fun _ _ _ h => h) (Or.inl ⟨by rfl, (by intro w' hSw; obtain ⟨s0, s1, s2, s3⟩ := hSw; go_simp)⟩) (unhide HSV) ?_
        go_simp
        refine wpAnyH_take (i := 1) (oi := _) (v := .pointer (some ⟨r, 0, none⟩)) rfl (by kernel_rfl) (by kernel_rfl) (by kernel_rfl) (fun _ _ _ h => h) (Or.inl ⟨by rfl, (by intro w' hSw; obtain ⟨s0, s1, s2, s3⟩ := hSw; go_simp)⟩) (unhide HSV) ?_
        go_simp
        refine wpAnyH_ready (rs := [2]) (by kernel_rfl) (by simp) ?_
        refine AllReadyH.cons (o := _) rfl (fun K hK => ?_) AllReadyH.nil
        go_simp
        refine (unhide HER).mono ?_
        rintro e w3 ⟨rfl, hw3⟩
        subst hw3
        go_simp
        refine hK.out _ _ (unhide HSV) (fun _ => ?_)
        clear hK K
        go_simp
        refine wpAnyH_ready (rs := [3]) (by kernel_rfl) (by simp) ?_
        refine AllReadyH.cons (o := _) rfl (fun K hK => ?_) AllReadyH.nil
        go_simp
        rw [unhide hZ]
        refine hK.out _ _ (unhide HSz) (fun _ => ?_)
        clear hK K
        go_simp
        refine wpAnyH_take (i := 4) (oi := _) (v := .int .i64 e0) rfl (by kernel_rfl) (by kernel_rfl) (by kernel_rfl) (fun _ _ _ h => h) (Or.inl ⟨by rfl, (by intro w' hSw; obtain ⟨s0, s1, s2, s3⟩ := hSw; go_simp)⟩) (unhide HSz) ?_
        go_simp
        refine wpAnyH_done (by kernel_rfl) ?_ _
        go_wp2_with fail
        refine bodyPost_ret (v := .tuple #[.agg #[.int .i64 q.a, .int .i64 q.b, .int .i64 q.c, .int .i64 q.d], .int .i64 e0]) ?_ rfl ?_
        · rw [results_cell_tmp rfl]
          go_simp
        · show SpP r rb w (rdS bs) _ _
          rw [unhide HOS, hOq]
          by_cases hz : e0 = 0
          · subst hz
            rw [fin4, if_pos rfl]
            exact ⟨unhide HFZ, rfl, v3, unhide HRZ⟩
          · rw [fin4, if_neg hz]
            have hf : fl = 0 := by rcases he with h | h; exact absurd h hz; exact h
            have hq : q = q4Z := by
              have h1 := unhide hOr
              rw [hf, rdG_zero] at h1
              rw [hOq] at h1
              cases h1
              rfl
            subst hq
            exact ⟨unhide HFZ, hz, rfl⟩
end Go.Proofs.YtclcebdcdbcpjaaGreat
