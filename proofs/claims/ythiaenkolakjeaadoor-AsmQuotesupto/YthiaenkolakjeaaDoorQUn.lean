/-
  Unquote, of what is quoted.
-/
import Derived.Test.YthiaenkolakjeaaDoorQMe
namespace Go.Proofs.YthiaenkolakjeaaDoor
open Go.RowKit Go.Shelf
set_option linter.unusedVariables false
set_option linter.unusedSimpArgs false
theorem qb_pos (c : UInt8) : 0 < (qb c).length := by
  unfold qb
  repeat' split
  all_goals simp
theorem emp_iff (t : ByteArray) : t.toList.isEmpty = decide (t.data.toList = []) := by
  rw [← decide_eq_emptyBytes]
  refine decide_eq_decide.2 ⟨fun h => by rw [h]; rfl, fun h => ?_⟩
  cases t with
  | mk d =>
    cases d with
    | mk l => simp at h; subst h; rfl
theorem BuilderAt_keep {B b : Nat} {p : Value} {bs : List Value} {w w' : World} (h : Lib.BuilderAt 31 5 B b p bs w) (f : Below w.heap.size w w') : Lib.BuilderAt 31 5 B b p bs w' := by
  obtain ⟨hB, v, hbk, hown, hne⟩ := h
  refine ⟨hB, v, (f.block b (at_lt hbk)).trans hbk, ?_, hne⟩
  exact hown.kept (row := none) ⟨f.os, f.tape, f.output, f.size, fun k hk _ => f.block k hk⟩ (by cases v.ownBlock <;> simp)
theorem Bd.keep {B b : Nat} {l : List UInt8} {w w' : World} (h : Bd B b l w) (f : Below w.heap.size w w') : Bd B b l w' :=
  ⟨h.1.imp (fun h => BuilderAt_keep h f) (fun h => BuilderAt_keep h f), by have := h.2; have := f.size; omega⟩
set_option maxHeartbeats 1000000 in
set_option maxRecDepth 100000 in
theorem unq_any (s : ByteArray) (l : List UInt8) (w : World) (hs : s.data.toList = quo l) (hm : l.length ≤ 17592186044416) :
    Calls Tryd.prog 6 #[.string s] w fun e w' => e = .returned (.tuple #[.string ⟨l.toArray⟩, .bool true]) ∧ Below w.heap.size w w' := by
  have hfl := flat_le l
  obtain ⟨F, hF⟩ : ∃ F, F = (l.flatMap qb).length := ⟨_, rfl⟩
  rw [← hF] at hfl
  have hsz : s.size = F + 2 := by rw [size_list, hs, quo]; simp [hF]
  obtain ⟨i0, a0⟩ := at_list (s := s) (i := 0) (x := 34) (by rw [hs]; rfl)
  obtain ⟨M, hM⟩ : ∃ M, Hid (M = F + 1) := ⟨_, rfl⟩
  obtain ⟨i1, a1⟩ := at_list (s := s) (i := M) (x := 34) (by rw [unhide hM, hs, quo, List.getElem?_append_right (by simp [hF])]; simp [hF])
  have e0 : s[0].toNat = 34 := by rw [a0]; rfl
  have e1 : s[M].toNat = 34 := by rw [a1]; rfl
  have g0 : ¬ (s.size : Int) < 2 := by omega
  have g1 : (0 : Int) < (s.size : Int) := by omega
  have g2 : IntKind.i64.wrap ((s.size : Int) - 1) = (M : Int) := by rw [IntKind.wrap_i64]; have := unhide hM; omega
  have g3 : (0 : Int) ≤ (M : Int) := by have := unhide hM; omega
  have g4 : (M : Int) < (s.size : Int) := by have := unhide hM; omega
  have g5 : (1 : Int) ≤ (M : Int) := by have := unhide hM; omega
  have g6 : (M : Int) ≤ (s.size : Int) := by have := unhide hM; omega
  have hR0 : Hid ((s.extract 1 M).data.toList = l.flatMap qb) := by
    unfold Hid
    rw [ex_list, hs, quo, unhide hM]
    simp [hF]
  obtain ⟨W1, eW1⟩ : ∃ W1, W1 = w.alloc (.cells #[.pointer none, .slice none 0 0] 31) := ⟨_, rfl⟩
  have B1 : Hid (Bd w.heap.size w.heap.size [] W1) := by
    unfold Hid; rw [eW1]
    exact ⟨Lib.fresh_isBuilder 31 5 w, by simp⟩
  have F1 : Hid (Below w.heap.size w W1) := by unfold Hid; rw [eW1]; exact (Below.refl _ _).alloc (Nat.le_refl _) _
  obtain ⟨N, hN⟩ : ∃ N, Hid (l.length = N) := ⟨_, rfl⟩
  have hFN : Hid (F ≤ 4 * N) := by rw [← unhide hN]; exact hfl
  have hNm : Hid (N ≤ 17592186044416) := by rw [← unhide hN]; exact hm
  clear hfl hF hs hsz a0 a1
  go_enter Tryd.func6, Tryd.ntmps6
  go_wp2_with fail
  rw [← eW1]
  clear eW1
  go_loopg [5] N (fun gg t5 wi => ∃ (i : Nat) (R : ByteArray), Hid (i + gg = N) ∧ t5 = .string R ∧ Hid (R.data.toList = (l.drop i).flatMap qb) ∧ Hid (Bd w.heap.size w.heap.size (l.take i) wi) ∧ Hid (Below w.heap.size w wi))
  case atStart => exact ⟨0, _, by unfold Hid; omega, rfl, by simpa [Hid] using unhide hR0, by simpa [Hid] using unhide B1, F1⟩
  case round =>
    obtain ⟨i, R, hi, rfl, hR, hB, hF⟩ := hrel
    by_cases hlt : i < N
    · obtain ⟨c, hc⟩ : ∃ c, l[i]? = some c := ⟨_, List.getElem?_eq_getElem (by rw [unhide hN]; exact hlt)⟩
      have hdr : l.drop i = c :: l.drop (i + 1) := by
        obtain ⟨h1, h2⟩ := List.getElem?_eq_some_iff.1 hc
        rw [← h2]; exact List.drop_eq_getElem_cons h1
      have hRl : R.data.toList = qb c ++ (l.drop (i + 1)).flatMap qb := by rw [unhide hR, hdr, List.flatMap_cons]
      have hRsz : R.size = (qb c).length + ((l.drop (i + 1)).flatMap qb).length := by rw [size_list, hRl, List.length_append]
      have hq0 := qb_pos c
      have hfl2 := flat_le (l.drop (i + 1))
      have hq4 := qb_le c
      rw [List.length_drop, unhide hN] at hfl2
      have hRm : R.size ≤ 9223372036854775807 := by have := unhide hNm; omega
      have HC := hide (meant_any R wr c _ hRl hRm)
      have hemp : R.toList.isEmpty = false := by
        rw [emp_iff]
        refine decide_eq_false (fun h => ?_)
        rw [hRl] at h
        have := congrArg List.length h
        simp at this
        rw [this.1] at hq0
        simp at hq0
      obtain ⟨q, hq⟩ : ∃ q, Hid ((qb c).length = q) := ⟨_, rfl⟩
      have HR2 : Hid ((R.extract q R.size).data.toList = (l.drop (i + 1)).flatMap qb) := by
        unfold Hid
        rw [ex_list, List.take_of_length_le (by rw [size_list]; exact Nat.le_refl _), hRl, ← unhide hq, List.drop_left]
      rw [unhide hq] at HC hq0 hRsz
      have q0 : ((q : Int) == 0) = false := by simp; omega
      have q1 : (0 : Int) ≤ (q : Int) := by omega
      have q2 : (q : Int) ≤ (R.size : Int) := by omega
      have HCC := hide hc
      clear hRl hfl2 hdr hc hRsz hq4 hq0
      go_wp2_with fail
      refine (unhide HC).mono ?_
      rintro e W2 ⟨rfl, hb2⟩
      have HB2 : Hid (Bd w.heap.size w.heap.size (l.take i) W2) := (unhide hB).keep hb2
      have HF2 : Hid (Below w.heap.size w W2) := (unhide hF).trans (hb2.mono (unhide hB).2)
      clear hb2 HC
      go_wp2_with fail
      refine (wb_any (unhide HB2) c (by have := unhide hNm; simp; omega)).mono ?_
      rintro e W3 ⟨rfl, b3, f3⟩
      have HB3 : Hid (Bd w.heap.size w.heap.size (l.take (i + 1)) W3) := by
        unfold Hid
        rw [List.take_add_one, unhide HCC]
        exact b3
      have HF3 : Hid (Below w.heap.size w W3) := (unhide HF2).trans f3
      clear b3 f3
      go_wp2_with fail
      go_roundg (gk - 1)
      case measure => have := unhide hi; omega
      case rel => exact ⟨i + 1, _, by have := unhide hi; unfold Hid; omega, rfl, HR2, HB3, HF3⟩
    · have hRe : R.data.toList = [] := by rw [unhide hR, List.drop_eq_nil_of_le (by rw [unhide hN]; omega)]; rfl
      have hemp : R.toList.isEmpty = true := by rw [emp_iff]; exact decide_eq_true hRe
      have HB4 : Hid (Bd w.heap.size w.heap.size l wr) := by have := unhide hB; rw [List.take_of_length_le (by rw [unhide hN]; omega)] at this; exact this
      clear hRe
      go_wp2_with fail
      refine (str_any (unhide HB4)).mono ?_
      rintro e W5 ⟨rfl, f5⟩
      have HF5 : Hid (Below w.heap.size w W5) := (unhide hF).trans f5
      clear f5
      go_wp2_with fail
      go_ret2
      exact ⟨rfl, unhide HF5⟩
end Go.Proofs.YthiaenkolakjeaaDoor
