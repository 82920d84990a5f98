/-
  The document's Unquote, of a text in quotes.
-/
import Derived.Test.YthiaenkolakjeaaDoorQUd
import Derived.Laws.BytesArg
namespace Go.Proofs.YthiaenkolakjeaaDoor
open Go.RowKit Go.Shelf
set_option linter.unusedVariables false
set_option linter.unusedSimpArgs false
/-- What Unquote answers. -/
def rsU : Option (List UInt8) → Value
  | none => .tuple #[.string ⟨#[]⟩, .bool false]
  | some r => .tuple #[.string ⟨r.toArray⟩, .bool true]
theorem Ro.str0 {w : World} {v : Value} {l : List UInt8} (h : Ro w 1 v l.length (Lib.byteCells l)) (hv : l = [] → v = .slice none 0 0) : (convert 26 9 v).run Tryd.prog w = .ok (.string ⟨l.toArray⟩) w := by
  cases l with
  | nil =>
    rw [hv rfl]
    exact run_convert_bytes_nil (P := Tryd.prog) (w := w) 26 5 Tryd.underlying26 Tryd.underlying5 0 0 9 Tryd.underlying9
  | cons c r => exact h.str (by simp)
theorem Gb.keep {B : Nat} {w wr w' : World} {l : List UInt8} {v : Value} (h : Gb B w l v wr) (f : Below wr.heap.size wr w') : Gb B w l v w' :=
  ⟨h.1.keep (fun g hg => f.block g (h.1.lt g hg)), h.2.1.trans (f.mono h.2.2.1), by have := f.size; have := h.2.2.1; omega, h.2.2.2⟩
def RuP (w : World) (o : Option (List UInt8)) (e : Ending) (w' : World) : Prop := e = .returned (rsU o) ∧ Below w.heap.size w w'
set_option maxHeartbeats 2000000 in
set_option maxRecDepth 100000 in
theorem runq_in (s : ByteArray) (w : World) (E : Nat) (l : List UInt8) (hE : s.size = E + 1) (h1 : 1 ≤ E) (hm : s.size ≤ 4194304) (a0 : s.data.toList[0]? = some 34) (aE : s.data.toList[E]? = some 34) (hl : (s.data.toList.take E).drop 1 = l) :
    Calls Tryd.prog 5 #[.string s] w fun e w' => RuP w (un l.length l) e w' := by
  obtain ⟨_, b0⟩ := at_list a0
  obtain ⟨_, bE⟩ := at_list aE
  have e0 : s[0].toNat = 34 := by rw [b0]; rfl
  have eE : s[E].toNat = 34 := by rw [bE]; rfl
  have g0 : ¬ (s.size : Int) < 2 := by omega
  have g1 : (0 : Int) < (s.size : Int) := by omega
  have g2 : IntKind.i64.wrap ((s.size : Int) - 1) = (E : Int) := by rw [IntKind.wrap_i64]; omega
  have g3 : (0 : Int) ≤ (E : Int) := by omega
  have g4 : (E : Int) < (s.size : Int) := by omega
  have HE : Hid (s.size = E + 1 ∧ E < s.size ∧ s.size ≤ 4611686018427387904 ∧ E ≤ 4194304) := ⟨hE, by omega, by omega, by omega⟩
  obtain ⟨L, hL⟩ : ∃ L, Hid (s.data.toList = L) := ⟨_, rfl⟩
  have hLE : Hid (E ≤ L.length) := by unfold Hid; rw [← unhide hL, ← size_list]; omega
  rw [unhide hL] at hl
  have HL := hide hl
  obtain ⟨O, hO⟩ : ∃ O, Hid (un l.length l = O) := ⟨_, rfl⟩
  rw [unhide hO]
  clear hE hm a0 aE b0 bE hl
  go_enter Tryd.func5, Tryd.ntmps5
  go_wp2_with fail
  go_loopg [5, 6] E (fun gg t5 t6 wi => ∃ (i : Nat) (acc : List UInt8), Hid (1 ≤ i ∧ i ≤ E ∧ E - i ≤ gg ∧ acc.length ≤ i) ∧ t6 = .int .i64 (i : Int) ∧ Hid (Gb w.heap.size w acc t5 wi ∧ (acc = [] → t5 = .slice none 0 0)) ∧ Hid (O = (un ((L.take E).drop i).length ((L.take E).drop i)).map (acc ++ ·)))
  case atStart =>
    refine ⟨1, [], by unfold Hid; simp; omega, rfl, ⟨⟨Ro.nil _ _, Below.refl _ _, Nat.le_refl _, fun k hk => by simp [Value.ownBlock] at hk⟩, fun _ => rfl⟩, ?_⟩
    unfold Hid
    rw [unhide HL, ← unhide hO]
    cases un l.length l <;> simp
  case round =>
    obtain ⟨i, acc, hi, rfl, hB, hU⟩ := hrel
    obtain ⟨r, hr⟩ : ∃ r, Hid ((L.take E).drop i = r) := ⟨_, rfl⟩
    rw [unhide hr] at hU
    have hrl : Hid (r.length = E - i) := part_len (unhide hr) (unhide hLE)
    by_cases hlt : i < E
    · have i1 : (i : Int) < (E : Int) := by omega
      have hr0 : r ≠ [] := fun h => by have := unhide hrl; rw [h] at this; simp at this; omega
      have HC := hide (one_any s wr i E r (by rw [unhide hL]; exact unhide hr) hlt (unhide HE).2.1 (unhide HE).2.2.1)
      have hst := un_step hr0
      have hle := mn_le r
      have hby := mn_byte r
      obtain ⟨c, hc⟩ : ∃ c, Hid ((mn r).1 = c) := ⟨_, rfl⟩
      obtain ⟨q, hq⟩ : ∃ q, Hid ((mn r).2 = q) := ⟨_, rfl⟩
      rw [unhide hc, unhide hq] at HC hst
      rw [unhide hc] at hby
      rw [unhide hq, unhide hrl] at hle
      rw [hst] at hU
      clear hst hr0
      by_cases hz : q = 0
      · subst hz
        have HO : Hid (O = none) := by unfold Hid; rw [unhide hU]; simp
        go_wp2_with fail
        refine (unhide HC).mono ?_
        rintro e W2 ⟨rfl, hb2⟩
        have HB2 : Hid (Below w.heap.size w W2) := (unhide hB).1.2.1.trans (hb2.mono (unhide hB).1.2.2.1)
        clear hb2 HC
        go_wp2_with fail
        go_ret2
        exact ⟨by rw [unhide HO]; rfl, unhide HB2⟩
      · have z0 : ((q : Int) == 0) = false := by simp; omega
        have w1 : IntKind.i64.wrap ((i : Int) + (q : Int)) = ((i + q : Nat) : Int) := by have := (unhide HE).2.2.2; rw [IntKind.wrap_i64]; omega
        obtain ⟨J, hJ⟩ : ∃ J, Hid (i + q = J) := ⟨_, rfl⟩
        rw [unhide hJ] at w1
        have HU2 : Hid (O = (un ((L.take E).drop J).length ((L.take E).drop J)).map ((acc ++ [UInt8.ofNat c]) ++ ·)) := by
          unfold Hid
          rw [unhide hU, if_neg hz, ← unhide hJ, ← List.drop_drop, unhide hr]
          cases un (r.drop q).length (r.drop q) <;> simp
        have HI2 : Hid (1 ≤ J ∧ J ≤ E ∧ E - J ≤ gk - 1 ∧ (acc ++ [UInt8.ofNat c]).length ≤ J) := by
          have h1 := unhide hi
          have h2 := unhide hJ
          unfold Hid
          simp only [List.length_append, List.length_singleton]
          omega
        have hc2 : (UInt8.ofNat c).toNat = c := by simp; omega
        clear hle
        go_wp2_with fail
        refine (unhide HC).mono ?_
        rintro e W2 ⟨rfl, hb2⟩
        have HG2 := hide ((unhide hB).1.keep hb2)
        have HRo := hide (unhide HG2).1
        have hal : acc.length ≤ 4194304 := by have h1 := unhide hi; have h2 := (unhide HE).2.2.2; omega
        clear hb2 HC
        go_wp2_with (first | (at_builtin; refine wpList_appB rfl _ _ rfl _ acc [UInt8.ofNat c] rfl ((unhide HRo).keep (fun g hg => Below.heap_alloc _ _ _ ((unhide HRo).lt g hg))) ⟨W2.heap.size, 0, none⟩ 1 rfl (fun j u hj => new_cells W2 #[.int .u8 (c : Int)] 5 j u (by simpa [Lib.byteCells, hc2] using hj)) (by simp) (by simp; omega) ?_; intro v6 w6 hr6 hg6 hat6; have G2 := hide ((unhide HG2).push hr6 rfl hg6 hat6); clear hr6 hg6 hat6))
        go_roundg (gk - 1)
        case measure => have := unhide hi; omega
        case rel => exact ⟨J, _, HI2, rfl, ⟨unhide G2, fun h => by simp at h⟩, HU2⟩
    · have i1 : ¬ (i : Int) < (E : Int) := by omega
      have hr0 : r = [] := List.eq_nil_of_length_eq_zero (by have := unhide hrl; omega)
      have HO : Hid (O = some acc) := by unfold Hid; rw [unhide hU, hr0]; simp [un]
      have hcv := (unhide hB).1.1.str0 (unhide hB).2
      have HF : Hid (Below w.heap.size w wr) := (unhide hB).1.2.1
      clear hr0
      go_wp2_with fail
      go_ret2
      exact ⟨by rw [unhide HO]; rfl, unhide HF⟩
end Go.Proofs.YthiaenkolakjeaaDoor
