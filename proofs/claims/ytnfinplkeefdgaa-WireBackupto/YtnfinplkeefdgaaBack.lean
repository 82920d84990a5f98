/-
  P1.8: whatever a row of calls writes, the same row reads.
-/
import Derived.Test.YtnfinplkeefdgaaSameBack
import Derived.Test.YtnfinplkeefdgaaOneWay
namespace Go.Proofs.Ytnfinplkeefdgaa
open Go.RowKit

/-- One call of a row. -/
structure PutD where
  on : Int
  kind : Int
  x : Nat
  s : ByteArray
def PutD.zero : PutD := ⟨0, 0, 0, ByteArray.empty⟩
def PutD.form (p : PutD) : List Int := bform p.kind p.x p.s
def PutD.ok (p : PutD) : Prop := p.x < 2 ^ 64 ∧ p.s.size ≤ 1048576
def flat (ps : List PutD) : List Int := ps.flatMap PutD.form
def bulk (ps : List PutD) : Nat := (ps.map fun p => 10 + p.s.size).sum

/-- A slice of calls reads so. -/
def RdP (w : World) (v : Value) (ps : List PutD) : Prop :=
  ∃ a cap, v = .slice a ps.length cap ∧ ∀ i, i < ps.length → ∃ b off, a = some ⟨b, off, none⟩ ∧ b < w.heap.size ∧ w.cell? ⟨b, off + i * 4, none⟩ = some (.int .i64 (ps.getD i PutD.zero).on) ∧
    w.cell? ⟨b, off + i * 4 + 1, none⟩ = some (.int .i64 (ps.getD i PutD.zero).kind) ∧ w.cell? ⟨b, off + i * 4 + 2, none⟩ = some (.int .u64 (ps.getD i PutD.zero).x) ∧ w.cell? ⟨b, off + i * 4 + 3, none⟩ = some (.string (ps.getD i PutD.zero).s)

theorem flat_nil : flat [] = [] := rfl
theorem flat_cons (p : PutD) (ps : List PutD) : flat (p :: ps) = p.form ++ flat ps := rfl
theorem flat_app (a b : List PutD) : flat (a ++ b) = flat a ++ flat b := by simp [flat]
theorem flat_len (ps : List PutD) : (flat ps).length ≤ bulk ps := by
  induction ps with
  | nil => exact Nat.le_refl _
  | cons p r ih =>
    rw [flat_cons, List.length_append]
    have h1 := bform_le p.kind p.x p.s
    have h2 : bulk (p :: r) = (10 + p.s.size) + bulk r := by simp [bulk]
    have h3 : p.form.length ≤ 10 + p.s.size := h1
    omega
theorem take_getD (ps : List PutD) (j : Nat) (hj : j < ps.length) : ps.take (j + 1) = ps.take j ++ [ps.getD j PutD.zero] := by
  rw [List.take_add_one]; simp [List.getD, hj]
theorem drop_getD (ps : List PutD) (j : Nat) (hj : j < ps.length) : ps.drop j = ps.getD j PutD.zero :: ps.drop (j + 1) := by
  rw [List.drop_eq_getElem_cons hj]; simp [List.getD, hj]
theorem flat_take (ps : List PutD) (j : Nat) (hj : j < ps.length) : flat (ps.take (j + 1)) = flat (ps.take j) ++ (ps.getD j PutD.zero).form := by
  rw [take_getD ps j hj, flat_app]; simp [flat]
theorem flat_drop (ps : List PutD) (j : Nat) (hj : j < ps.length) : flat (ps.drop j) = (ps.getD j PutD.zero).form ++ flat (ps.drop (j + 1)) := by
  rw [drop_getD ps j hj, flat_cons]
theorem bulk_app (a b : List PutD) : bulk (a ++ b) = bulk a + bulk b := by simp [bulk]
theorem flat_take_len (ps : List PutD) (j : Nat) : (flat (ps.take j)).length ≤ bulk ps := by
  have h := flat_len (ps.take j)
  have e : bulk ps = bulk (ps.take j) + bulk (ps.drop j) := by rw [← bulk_app, List.take_append_drop]
  omega
theorem flat_drop_len (ps : List PutD) (j : Nat) : (flat (ps.drop j)).length ≤ bulk ps := by
  have h := flat_len (ps.drop j)
  have e : bulk ps = bulk (ps.take j) + bulk (ps.drop j) := by rw [← bulk_app, List.take_append_drop]
  omega
theorem flat_bok (ps : List PutD) (h : ∀ p ∈ ps, p.ok) : BOk (flat ps) := by
  induction ps with
  | nil => intro b hb; simp [flat] at hb
  | cons p r ih =>
    rw [flat_cons]
    have hp := h p (by simp)
    exact BOk.append (bform_bok _ _ _ hp.1 (by have := hp.2; omega)) (ih fun q hq => h q (by simp [hq]))

/-- What holds ahead of a round of writing. -/
def WrAt (w0 : World) (out : List Int) (p : Nat) (w : World) : Prop :=
  ∃ v, Wtr w p v out ∧ Below w0.heap.size w0 w ∧ ∀ k, v.ownBlock = some k → w0.heap.size ≤ k
theorem WrAt.step {w0 w w3 w4 : World} {out form : List Int} {p : Nat} {v v2 : Value} (hp : w0.heap.size ≤ p) (hB : Below w0.heap.size w0 w) (hv : ∀ k, v.ownBlock = some k → w0.heap.size ≤ k)
    (hF : Below w.heap.size w w3) (hW : Wtr w4 p v2 (out ++ form)) (hT : WStep p w3 v w4 v2) : WrAt w0 (out ++ form) p w4 := by
  have hB3 : Below w0.heap.size w0 w3 := chainB1 hB hF
  refine ⟨v2, hW, pairBelow hB3 hp hv hT, fun k hk => ?_⟩
  rcases hT.row with q | q
  · exact hv k (q ▸ hk)
  · have := q k hk
    have := hB3.size
    omega

/-- A string's bytes in a new slice. -/
theorem rd_str (w : World) (s : ByteArray) (hs : s.size ≤ 140737488355328) (fr : Nat × Nat) :
    Rd ((w.alloc (.cells (bytesRow s (grownCap w s.size 0 5)) 5 fr)).drew) (.slice (some ⟨w.heap.size, 0, none⟩) s.size (grownCap w s.size 0 5)) (strI s) := by
  have hge := grownCap_ge w s.size 0 5
  have hle := grownCap_le_maxLen w s.size 0 5 (by unfold maxLen; omega)
  refine .inr ⟨w.heap.size, 0, _, by rw [strI_length], by rw [strI_length]; exact hge, hle, by simp, fun i hi => ?_⟩
  rw [strI_length] at hi
  have h := World.cell?_alloc_mark w (bytesRow s (grownCap w s.size 0 5)) 5 fr i
  rw [Nat.zero_add]
  refine h.trans ?_
  unfold bytesRow
  rw [Array.getElem?_append_left (by simpa using hi)]
  have hi' : i < s.data.size := hi
  simp [strI, List.getD, Array.getElem?_eq_getElem hi']

/-- Raw of a string's bytes. -/
theorem raw_str (p : Nat) (v : Value) (out : List Int) (s : ByteArray) (o : Obj) (fr : Nat × Nat) (w : World) (h : Wtr w p v out) (hb : out.length + s.size ≤ 140737488355328) :
    Calls Try.prog 22 #[.pointer (some ⟨p, 0, none⟩), .slice (some ⟨w.heap.size + 1, 0, none⟩) s.size (grownCap (w.alloc o) s.size 0 5)] (((w.alloc o).alloc (.cells (bytesRow s (grownCap (w.alloc o) s.size 0 5)) 5 fr)).drew)
      fun e w' => e = .returned (.tuple #[]) ∧ ∃ v', Wtr w' p v' (out ++ strI s) ∧ ∃ w3, Below w.heap.size w w3 ∧ WStep p w3 v w' v' := by
  have hR := rd_str (w.alloc o) s (by omega) fr
  have hz : (w.alloc o).heap.size = w.heap.size + 1 := by simp
  rw [hz] at hR
  have hF : Fr (fun _ => False) w (((w.alloc o).alloc (.cells (bytesRow s (grownCap (w.alloc o) s.size 0 5)) 5 fr)).drew) := (((Fr.refl _ w).alloc o).alloc _).drew
  have hW := h.keep hF (by simp) (by simp)
  have hC := raw_any p v out ⟨w.heap.size + 1, 0, none⟩ (grownCap (w.alloc o) s.size 0 5) (strI s) _ hW (by rw [strI_length]; exact hb) (fun j u hu => by
    rcases hR with ⟨q, _⟩ | ⟨b, off, cap, q, _, _, _, hc⟩
    · simp at q
    · simp at q
      obtain ⟨⟨rfl, rfl⟩, _, rfl⟩ := q
      rw [List.getElem?_map] at hu
      have hj : j < (strI s).length := by
        rcases Nat.lt_or_ge j (strI s).length with q | q
        · exact q
        · rw [List.getElem?_eq_none q] at hu; simp at hu
      rw [List.getElem?_eq_getElem hj] at hu
      have h2 := hc j hj
      rw [addr_add]
      refine h2.trans ?_
      rw [← hu]
      simp [By, List.getD, hj])
  rw [strI_length] at hC
  refine hC.mono ?_
  rintro e w' ⟨rfl, v2, h1, h2⟩
  exact ⟨rfl, v2, h1, _, hF.below (Nat.le_refl _) (by simp), h2⟩

/-- What holds ahead of a round of reading. -/
def RdAt (w0 : World) (bs : List Int) (r rb : Nat) (w : World) : Prop := ∃ u, Rdr w r rb u bs 0 ∧ Below w0.heap.size w0 w
theorem rEnd_more (bs : List Int) (h : bs.length ≠ 0) : rEnd bs 0 = 3 := by unfold rEnd; rw [if_pos rfl, if_neg h]
theorem drop_end (ps : List PutD) (M : Nat) (h : ps.length = M) : ps.drop M = [] := by subst h; simp
theorem take_end (ps : List PutD) (M : Nat) (h : ps.length = M) : ps.take M = ps := by subst h; simp
theorem chainR1 {w w1 w2 : World} {r : Nat} (h : Below w.heap.size w w1) (hr : w.heap.size ≤ r) (f : RFr r w1 w2) : Below w.heap.size w w2 :=
  h.trans (f.below h.size (by intro k hk e; omega))
set_option maxHeartbeats 3200000 in
set_option maxRecDepth 100000 in
theorem back_walk (rw0 : Value) (ps : List PutD) (w : World) (hrow : RdP w rw0 ps) (hok : ∀ p ∈ ps, p.ok) (hM : ps.length ≤ 1048576) (hbulk : bulk ps ≤ 16777216) :
    Calls Try.prog 5 #[rw0] w fun e w' => e = .returned (.bool true) ∧ Below w.heap.size w w' := by
  obtain ⟨a1, cap1, rfl, hcell⟩ := hrow
  have hcs := fun (s : ByteArray) (w : World) => run_bytes_of_string (P := Try.prog) w 9 22 5 s Try.underlying9 Try.underlying22 Try.underlying5
  have HC := hide hcell
  have HOK := hide hok
  have HBU := hide hbulk
  obtain ⟨M, hMM⟩ : ∃ M, Hid (ps.length = M) := ⟨_, rfl⟩
  rw [unhide hMM] at hM ⊢
  obtain ⟨p, hpp⟩ : ∃ p, Hid (w.heap.size = p) := ⟨_, rfl⟩
  clear hcell hok hbulk
  have u300 : Hid ((Wm.uform 9 300).length = 2) := by unfold Hid; decide +kernel
  go_enter Try.func5, Try.ntmps5
  go_wp2_with fail
  refine (newWriter_any w p (unhide hpp)).mono ?_
  rintro e w2 ⟨rfl, hW2, hB2, hlt2⟩
  have hU := hide (uint_any p (.slice none 0 0) [] 300 w2 hW2 (by simp) (by omega))
  have hp : w.heap.size ≤ p := by rw [unhide hpp]; exact Nat.le_refl _
  have HB2 : Hid (Below w.heap.size w w2) := hide (by rw [← unhide hpp] at hB2; exact hB2)
  clear hW2 hB2
  go_wp2_with fail
  refine (unhide hU).mono ?_
  rintro e w3 ⟨rfl, v3, hW3, hT3⟩
  have h0 : Hid (WrAt w (Wm.uform 9 300 ++ flat (ps.take 0)) p w3) := hide (by
    have h := WrAt.step (w0 := w) (w := w2) (w3 := w2) (v := .slice none 0 0) (out := []) hp (unhide HB2) (by simp [Value.ownBlock]) (Below.refl _ _) hW3 hT3
    simpa [flat] using h)
  clear hW3 hT3 hU HB2
  go_wp2
  go_loopg [4] M (fun k s wr => ∃ j : Nat, Hid (j + k = M) ∧ s = .int .i64 (j : Int) ∧ Hid (WrAt w (Wm.uform 9 300 ++ flat (ps.take j)) p wr))
  case atStart => exact ⟨0, by unfold Hid; omega, rfl, h0⟩
  case round =>
    obtain ⟨j, hj, rfl, hO⟩ := hrel
    obtain ⟨v, hW, hBel, hv⟩ := unhide hO
    by_cases hlt : j < M
    · obtain ⟨cb, co, rfl, hcb, hc0, hc1, hc2, hc3⟩ := unhide HC j (by rw [unhide hMM]; exact hlt)
      have hk0 := (hBel.cell (p := ⟨cb, co + j * 4, none⟩) hcb).trans hc0
      have hk1 := (hBel.cell (p := ⟨cb, co + j * 4 + 1, none⟩) hcb).trans hc1
      have hk2 := (hBel.cell (p := ⟨cb, co + j * 4 + 2, none⟩) hcb).trans hc2
      have hk3 := (hBel.cell (p := ⟨cb, co + j * 4 + 3, none⟩) hcb).trans hc3
      have i0 : (0 : Int) ≤ (j : Int) := by omega
      have i1 : (j : Int) < (M : Int) := by omega
      have hft := hide (flat_take ps j (by rw [unhide hMM]; exact hlt))
      have hfl := hide (flat_take_len ps j)
      have hqk := hide ((unhide HOK) (ps.getD j PutD.zero) (by rw [List.getD, List.getElem?_eq_getElem (by rw [unhide hMM]; exact hlt)]; simp))
      clear hc0 hc1 hc2 hc3 hO
      generalize ps.getD j PutD.zero = q at hk0 hk1 hk2 hk3 hft hqk
      obtain ⟨on, kind, x, s⟩ := q
      dsimp only at hk0 hk1 hk2 hk3
      have HALL := hide (And.intro hW (And.intro hBel hv))
      clear hW hBel hv
      by_cases k0 : kind < 0
      · have hWr := hide (raw_str p v _ s (.cells #[.int .i64 on, .int .i64 kind, .int .u64 x, .string s] 27) ((bytesRow s (grownCap (wr.alloc (.cells #[.int .i64 on, .int .i64 kind, .int .u64 x, .string s] 27)) s.size 0 5)).size, (bytesRow s (grownCap (wr.alloc (.cells #[.int .i64 on, .int .i64 kind, .int .u64 x, .string s] 27)) s.size 0 5)).size + 1) wr (unhide HALL).1 (by have := unhide hfl; have := (unhide hqk).2; have := unhide HBU; simp only [List.length_append] at *; have := (unhide u300); omega))
        go_wp2_with fail
        refine (unhide hWr).mono ?_
        rintro e6 w4 ⟨rfl, v2, hW4, w3', hF3, hT4⟩
        have HN := hide (WrAt.step hp (unhide HALL).2.1 (unhide HALL).2.2 hF3 hW4 hT4)
        have HN2 : Hid (WrAt w (Wm.uform 9 300 ++ flat (ps.take (j + 1))) p w4) := hide (by
          rw [unhide hft, ← List.append_assoc]
          rw [show (PutD.mk on kind x s).form = strI s from if_pos (.inl k0)]
          exact unhide HN)
        clear hW4 hT4 hF3 HN
        go_wp2
        go_roundg (gk - 1)
        case measure => have := unhide hj; omega
        case rel => exact ⟨j + 1, by have := unhide hj; unfold Hid; omega, by go_num, HN2⟩
      have k0' : decide (kind < 0) = false := decide_eq_false k0
      by_cases k4 : 4 < kind
      · have hWr := hide (raw_str p v _ s (.cells #[.int .i64 on, .int .i64 kind, .int .u64 x, .string s] 27) ((bytesRow s (grownCap (wr.alloc (.cells #[.int .i64 on, .int .i64 kind, .int .u64 x, .string s] 27)) s.size 0 5)).size, (bytesRow s (grownCap (wr.alloc (.cells #[.int .i64 on, .int .i64 kind, .int .u64 x, .string s] 27)) s.size 0 5)).size + 1) wr (unhide HALL).1 (by have := unhide hfl; have := (unhide hqk).2; have := unhide HBU; simp only [List.length_append] at *; have := (unhide u300); omega))
        go_wp2_with fail
        refine (unhide hWr).mono ?_
        rintro e6 w4 ⟨rfl, v2, hW4, w3', hF3, hT4⟩
        have HN := hide (WrAt.step hp (unhide HALL).2.1 (unhide HALL).2.2 hF3 hW4 hT4)
        have HN2 : Hid (WrAt w (Wm.uform 9 300 ++ flat (ps.take (j + 1))) p w4) := hide (by
          rw [unhide hft, ← List.append_assoc]
          rw [show (PutD.mk on kind x s).form = strI s from if_pos (.inr k4)]
          exact unhide HN)
        clear hW4 hT4 hF3 HN
        go_wp2
        go_roundg (gk - 1)
        case measure => have := unhide hj; omega
        case rel => exact ⟨j + 1, by have := unhide hj; unfold Hid; omega, by go_num, HN2⟩
      have k4' : decide (4 < kind) = false := decide_eq_false k4
      have HKF : Hid (¬ (kind < 0 ∨ 4 < kind)) := fun h => h.elim k0 k4
      have hWr := hide (put_any p v _ on kind x s (wr.alloc (.cells #[.int .i64 on, .int .i64 kind, .int .u64 x, .string s] 27)) ((unhide HALL).1.alloc _) (by have := unhide hfl; have := (unhide hqk).2; have := unhide HBU; simp only [List.length_append] at *; have := (unhide u300); omega) (unhide hqk).1)
      go_wp2_with fail
      refine (unhide hWr).mono ?_
      rintro e6 w4 ⟨rfl, v2, hW4, hT4⟩
      have hF3 : Below wr.heap.size wr (wr.alloc (.cells #[.int .i64 on, .int .i64 kind, .int .u64 x, .string s] 27)) := (Below.refl _ _).alloc (Nat.le_refl _) _
      have HN := hide (WrAt.step hp (unhide HALL).2.1 (unhide HALL).2.2 hF3 hW4 hT4)
      have HN2 : Hid (WrAt w (Wm.uform 9 300 ++ flat (ps.take (j + 1))) p w4) := hide (by
        rw [unhide hft, ← List.append_assoc]
        rw [show (PutD.mk on kind x s).form = pform kind x s from if_neg (unhide HKF)]
        exact unhide HN)
      clear hW4 hT4 hF3 HN
      go_wp2
      go_roundg (gk - 1)
      case measure => have := unhide hj; omega
      case rel => exact ⟨j + 1, by have := unhide hj; unfold Hid; omega, by go_num, HN2⟩
    · have hjM : j = M := by have := unhide hj; omega
      subst hjM
      have hte := take_end ps j (unhide hMM)
      have hDn := done_any p v _ wr hW (by have := flat_take_len ps j; have := unhide HBU; have := unhide u300; rw [List.length_append]; omega)
      have HBel := hide hBel
      rw [hte] at hDn
      have HDn := hide hDn
      clear hDn hO hW hBel hv hte
      go_wp2_with fail
      refine (unhide HDn).mono ?_
      rintro e5 w5 ⟨v5, rfl, ho5, hB5⟩
      have hB6 := hide (chainB1 (unhide HBel) hB5)
      obtain ⟨a5, l5, c5, rfl⟩ := own_shape ho5
      have hNR := newReader_any _ _ w5 (Rd.of_own ho5) (by have := flat_len ps; have := unhide HBU; have := unhide u300; rw [List.length_append]; omega)
      have HNR := hide hNR
      clear hNR ho5 hB5 HDn HBel
      go_wp2_with fail
      refine (unhide HNR).mono ?_
      rintro e6 w6 ⟨r, rb, u6, rfl, hr6, hrb6, hR6, hB7⟩
      have hB8 := hide (chainB1 (unhide hB6) hB7)
      have hr : w.heap.size ≤ r := Nat.le_trans (unhide hB6).size hr6
      have hEn := rEnd_any r u6 _ 0 w6 hR6
      rw [rEnd_more _ (by have := unhide u300; rw [List.length_append]; omega)] at hEn
      have HEn := hide hEn
      have hUi := rUint_any r u6 _ 0 w6 hR6 (BOk.append (uform_bok 9 300 (by decide)) (flat_bok ps (unhide HOK)))
      rw [unum_form 300 (flat ps) (by omega), gNum, rres_ok] at hUi
      have HUi := hide hUi
      clear hEn hUi HNR hR6 hB7 hr6 hrb6
      go_wp2_with fail
      refine (unhide HEn).mono ?_
      rintro e7 w7 ⟨rfl, hw7⟩
      rw [hw7]
      clear hw7 w7
      go_wp2_with fail
      refine (unhide HUi).mono ?_
      rintro e7 w7 ⟨rfl, u7, hR7, hF7⟩
      have h1 : Hid (RdAt w (flat (ps.drop 0)) r rb w7) := ⟨u7, hR7, chainR1 (unhide hB8) hr hF7⟩
      clear hR7 hF7 HEn HUi hB8 hB6
      go_wp2
      go_loopg [8] j (fun k s wr => ∃ i : Nat, Hid (i + k = j) ∧ s = .int .i64 (i : Int) ∧ Hid (RdAt w (flat (ps.drop i)) r rb wr))
      case atStart => exact ⟨0, by unfold Hid; omega, rfl, h1⟩
      case round =>
        obtain ⟨i, hi, rfl, hO⟩ := hrel
        obtain ⟨u, hR, hBel⟩ := unhide hO
        by_cases hlt : i < j
        · obtain ⟨cb, co, rfl, hcb, hc0, hc1, hc2, hc3⟩ := unhide HC i (by rw [unhide hMM]; exact hlt)
          have hk0 := (hBel.cell (p := ⟨cb, co + i * 4, none⟩) hcb).trans hc0
          have hk1 := (hBel.cell (p := ⟨cb, co + i * 4 + 1, none⟩) hcb).trans hc1
          have hk2 := (hBel.cell (p := ⟨cb, co + i * 4 + 2, none⟩) hcb).trans hc2
          have hk3 := (hBel.cell (p := ⟨cb, co + i * 4 + 3, none⟩) hcb).trans hc3
          have i0 : (0 : Int) ≤ (i : Int) := by omega
          have i1 : (i : Int) < (j : Int) := by omega
          have hft := flat_drop ps i (by rw [unhide hMM]; exact hlt)
          have hfl := hide (flat_drop_len ps i)
          have hBk := flat_bok (ps.drop i) (fun q hq => unhide HOK q (List.mem_of_mem_drop hq))
          have hqk := hide ((unhide HOK) (ps.getD i PutD.zero) (by rw [List.getD, List.getElem?_eq_getElem (by rw [unhide hMM]; exact hlt)]; simp))
          clear hc0 hc1 hc2 hc3 hO
          generalize ps.getD i PutD.zero = q at hk0 hk1 hk2 hk3 hft hqk
          obtain ⟨on, kind, x, s⟩ := q
          dsimp only at hk0 hk1 hk2 hk3
          rw [hft] at hR hBk hfl
          have HS := hide (same_back r u on kind x s (flat (ps.drop (i + 1))) wr hR (unhide hqk).1 (by have := (unhide hqk).2; exact Nat.lt_of_le_of_lt this (by omega)) hBk (by have := unhide HBU; exact Nat.le_trans (unhide hfl) (by omega)))
          have HBel := hide hBel
          clear hR hBel hBk hfl hqk hft
          unfold PutV at HS
          go_wp2_with fail
          refine (unhide HS).mono ?_
          rintro e7 w7 ⟨rfl, u7, hR7, hF7⟩
          have HN : Hid (RdAt w (flat (ps.drop (i + 1))) r rb w7) := ⟨u7, hR7, chainR1 (unhide HBel) hr hF7⟩
          have HE := hide (rErr_any r u7 _ 0 w7 hR7)
          clear hR7 hF7 HS
          go_wp2_with fail
          refine (unhide HE).mono ?_
          rintro e8 w8 ⟨rfl, hw8⟩
          rw [hw8]
          clear hw8 w8 HE
          go_wp2
          go_roundg (gk - 1)
          case measure => have := unhide hi; omega
          case rel => exact ⟨i + 1, by have := unhide hi; unfold Hid; omega, by go_num, HN⟩
        · have hij : i = j := by have := unhide hi; omega
          subst hij
          rw [drop_end ps i (unhide hMM), flat_nil] at hR
          have HLe := hide (rLeft_any r u [] 0 wr hR)
          have hEn := rEnd_any r u [] 0 wr hR
          rw [show rEnd [] 0 = 0 from rfl] at hEn
          have HEn := hide hEn
          have HBel := hide hBel
          clear hEn hR hBel hO
          go_wp2_with fail
          refine (unhide HLe).mono ?_
          rintro e7 w7 ⟨rfl, hw7⟩
          rw [hw7]
          clear hw7 w7
          go_wp2_with fail
          refine (unhide HEn).mono ?_
          rintro e7 w7 ⟨rfl, hw7⟩
          rw [hw7]
          clear hw7 w7
          go_wp2
          go_ret
          exact ⟨rfl, unhide HBel⟩
end Go.Proofs.Ytnfinplkeefdgaa
