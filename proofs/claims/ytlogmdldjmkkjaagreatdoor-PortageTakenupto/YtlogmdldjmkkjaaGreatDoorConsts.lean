/-
  The first fault of the constants.
-/
import Derived.Test.YtlogmdldjmkkjaaGreatDoorRight
import Derived.Carry
namespace Go.Proofs.YtlogmdldjmkkjaaGreatDoor
open Go.RowKit Go.Maps
set_option linter.unusedVariables false
set_option linter.unusedSimpArgs false
noncomputable section
open Classical
/-- The first fault of constants behind others. -/
def csG (pre : List Cn) : List Cn → Option (Int × Int)
  | [] => none
  | c :: r => if rfB c = false then some ((pre.length : Int), 4) else if c.text.size > 4096 then some ((pre.length : Int), 5) else if c ∈ pre then some ((pre.length : Int), 15) else csG (pre ++ [c]) r
def csF (l : List Cn) : Option (Int × Int) := if l.length > 512 then some (512, 5) else csG [] l
theorem csG_at {l : List Cn} {i : Nat} {c : Cn} (h : l[i]? = some c) : csG (l.take i) (l.drop i) = if rfB c = false then some ((i : Int), 4) else if c.text.size > 4096 then some ((i : Int), 5) else if c ∈ l.take i then some ((i : Int), 15) else csG (l.take (i + 1)) (l.drop (i + 1)) := by
  obtain ⟨hi, hc⟩ := List.getElem?_eq_some_iff.1 h
  have hl : (l.take i).length = i := by simp; omega
  rw [List.drop_eq_getElem_cons hi, hc, csG, hl, take_push h]
set_option maxRecDepth 100000 in
set_option maxHeartbeats 6400000 in
theorem checkConsts_any {w : World} {lv : Value} {l : List Cn} (h : Rx w 3 lv l.length (flt enC l)) (hok : ∀ c ∈ l, OkC c) : Calls Tryz.prog 83 #[lv] w fun e w' => e = .returned (erV (csF l)) ∧ Below w.heap.size w w' := by
  have HC := hide (fun i p (hp : l[i]? = some p) => h.elem zC hp)
  have HOK := hide hok
  obtain ⟨_, a, cap, rfl, _, _, _⟩ := h
  obtain ⟨L, hL⟩ : ∃ L, Hid (l.length = L) := ⟨_, rfl⟩
  obtain ⟨r, hr⟩ : ∃ r, Hid (csF l = r) := ⟨_, rfl⟩
  rw [unhide hr]
  clear hok
  by_cases h1 : l.length > 512
  · obtain rfl : r = some (512, 5) := by rw [← unhide hr]; unfold csF; rw [if_pos h1]
    have k1 : (512 : Int) < (l.length : Int) := by omega
    go_enter Tryz.func83, Tryz.ntmps83
    go_wp2_with fail
    go_ret
    exact ⟨rfl, Below.refl _ _⟩
  · have hr2 : csF l = csG [] l := by unfold csF; rw [if_neg h1]
    rw [hr2] at hr
    rw [unhide hL] at h1 HC ⊢
    clear hr2
    have k1 : decide ((512 : Int) < (L : Int)) = false := decide_eq_false (by omega)
    have hmm := @run_makeMap Tryz.prog
    go_enter Tryz.func83, Tryz.ntmps83
    go_wp2_with fail
    clear hmm
    go_loopg [16] L (fun gg t16 wr => ∃ (i : Nat) (f : Cn → Option Nat), Hid (i + gg = L) ∧ t16 = .int .i64 (i : Int) ∧ Hid (Below w.heap.size w wr) ∧ Hid (MfC wr w.heap.size i f) ∧ Hid (∀ t, OkC t → ((f t).isSome = true ↔ t ∈ l.take i)) ∧ Hid (csG (l.take i) (l.drop i) = r))
    case atStart => exact ⟨0, fun _ => none, by unfold Hid; omega, rfl, (Below.refl _ w).alloc (Nat.le_refl _) _, MfC.made w, fun t _ => by simp, by unfold Hid; simpa using unhide hr⟩
    case round =>
      obtain ⟨i, f, hi, rfl, hB, hM, hF, hG⟩ := hrel
      by_cases hlt : i < L
      · have hil : i < l.length := by rw [unhide hL]; exact hlt
        obtain ⟨c, hp⟩ : ∃ c, l[i]? = some c := ⟨_, List.getElem?_eq_getElem hil⟩
        have hcok : OkC c := unhide HOK c (List.mem_of_getElem? hp)
        obtain ⟨b, off, _, e, _, _, hb, hcs⟩ := unhide HC i c hp
        cases e
        have k0 : wr.cell? ⟨b, off + i * 3, none⟩ = some (.int .i64 c.kind) := ((unhide hB).cell (p := ⟨b, off + i * 3, none⟩) hb).trans (hcs 0 _ rfl)
        have k1' : wr.cell? ⟨b, off + i * 3 + 1, none⟩ = some (.int .i64 c.n) := ((unhide hB).cell (p := ⟨b, off + i * 3 + 1, none⟩) hb).trans (hcs 1 _ rfl)
        have k2 : wr.cell? ⟨b, off + i * 3 + 2, none⟩ = some (.string c.text) := ((unhide hB).cell (p := ⟨b, off + i * 3 + 2, none⟩) hb).trans (hcs 2 _ rfl)
        have hbr := Nat.lt_of_lt_of_le hb (unhide hB).size
        have i0 : (0 : Int) ≤ (i : Int) := by omega
        have i1 : (i : Int) < (L : Int) := by omega
        have hG2 := unhide hG
        rw [csG_at hp] at hG2
        have HG2 := hide hG2
        have HP := hide hp
        have HOKc := hide hcok
        have hml := (unhide hM).lt
        have HR := hide (rightFields_any c (wr.alloc (.cells #[.int .i64 c.kind, .int .i64 c.n, .string c.text] 69)))
        clear hcs hp hcok hG2
        go_wp2_with fail
        refine (unhide HR).mono ?_
        rintro e w2 ⟨rfl, hb2⟩
        clear HR
        have hb2' : Below (wr.heap.size + 1) (wr.alloc (.cells #[.int .i64 c.kind, .int .i64 c.n, .string c.text] 69)) w2 := hb2.mono (by simp)
        obtain ⟨hbx, hBw, hwl⟩ := boxN hb2'
        have x0 := hbx 0 _ rfl
        have x1 := hbx 1 _ rfl
        have x2 := hbx 2 _ rfl
        have hB2 := hide ((unhide hB).trans (hBw.mono (unhide hB).size))
        have hM2 := hide ((unhide hM).keep (hBw.block w.heap.size hml))
        clear hb2 hb2' hbx hBw k0 k1' k2
        cases hrf : rfB c
        · obtain rfl : r = some ((i : Int), 4) := by rw [← unhide HG2, if_pos hrf]
          go_wp2_with fail
          go_ret
          exact ⟨rfl, unhide hB2⟩
        · have hG3 := unhide HG2
          rw [if_neg (by rw [hrf]; decide)] at hG3
          by_cases h5 : c.text.size > 4096
          · obtain rfl : r = some ((i : Int), 5) := by rw [← hG3, if_pos h5]
            have k5 : (4096 : Int) < (c.text.size : Int) := by omega
            clear hG3
            go_wp2_with fail
            go_ret
            exact ⟨rfl, unhide hB2⟩
          · rw [if_neg h5] at hG3
            have k5 : decide ((4096 : Int) < (c.text.size : Int)) = false := decide_eq_false (by omega)
            have hlk := (unhide hM2).look c (unhide HOKc)
            obtain ⟨q, hq⟩ : ∃ q, (((f c).getD 0 : Nat) : Int) = q := ⟨_, rfl⟩
            rw [hq] at hlk
            cases hfc : (f c).isSome
            · have hno : ¬ c ∈ l.take i := fun k => by have := (unhide hF c (unhide HOKc)).2 k; rw [hfc] at this; cases this
              rw [if_neg hno] at hG3
              have hfn : f c = none := by cases e : f c with
                | none => rfl
                | some v => rw [e] at hfc; cases hfc
              obtain ⟨w3, hrun, hM3, hg3⟩ := (unhide hM2).put c (unhide HOKc) hfn i (by omega) (by unfold maxLen; omega)
              rw [hfc] at hlk
              have HM3 := hide hM3
              have hB3 := hide ((unhide hB2).trans (Fr.below (S := fun k => k = w.heap.size) ((Fr.refl (fun k => k = w.heap.size) w2).grown hg3 (fun k e => by cases e; exact .inr rfl)) (Nat.le_trans (unhide hB).size (by omega)) (fun k hk e => by omega)))
              have HG3 := hide hG3
              have hF3 : Hid (∀ t, OkC t → (((fun t => if t = c then some i else f t) t).isSome = true ↔ t ∈ l.take (i + 1))) := by
                intro t ht
                rw [take_push (unhide HP)]
                by_cases e : t = c
                · simp [e]
                · simp only [if_neg e, List.mem_append, List.mem_singleton, e, or_false]
                  exact unhide hF t ht
              clear hM3 hg3 hG3 hno hq
              go_wp2_with fail
              go_roundg (gk - 1)
              case measure => have := unhide hi; omega
              case rel => exact ⟨i + 1, _, by have := unhide hi; unfold Hid; omega, by go_num, hB3, HM3, hF3, HG3⟩
            · have hyes : c ∈ l.take i := (unhide hF c (unhide HOKc)).1 hfc
              obtain rfl : r = some ((i : Int), 15) := by rw [← hG3, if_pos hyes]
              rw [hfc] at hlk
              clear hG3 hyes hq
              go_wp2_with fail
              go_ret
              exact ⟨rfl, unhide hB2⟩
      · have hiL : L = i := by have := unhide hi; omega
        subst hiL
        obtain rfl : r = none := by
          rw [← unhide hG, List.drop_eq_nil_of_le (by rw [unhide hL]; exact Nat.le_refl _)]
          rfl
        go_wp2_with fail
        go_ret
        exact ⟨rfl, unhide hB⟩
end
end Go.Proofs.YtlogmdldjmkkjaaGreatDoor
