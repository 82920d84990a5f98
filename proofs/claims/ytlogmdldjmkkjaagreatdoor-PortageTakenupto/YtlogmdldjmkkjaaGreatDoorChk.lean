/-
  Check, of the program.
-/
import Derived.Test.YtlogmdldjmkkjaaGreatDoorFn
import Derived.Test.YtlogmdldjmkkjaaGreatDoorTell
namespace Go.Proofs.YtlogmdldjmkkjaaGreatDoor
open Go.RowKit Go.Maps
set_option linter.unusedVariables false
set_option linter.unusedSimpArgs false
noncomputable section
open Classical
/-- A fault with its function, as an error. -/
def wiV : Option (Int × Int × Int) → Value
  | none => .nilIface
  | some (k, a, y) => .iface 140 (.agg #[.int .i64 k, .iface 138 (.agg #[.int .i64 a, .int .i64 y])])
def inE (k : Int) : Option (Int × Int) → Option (Int × Int × Int)
  | none => none
  | some (a, y) => some (k, a, y)
/-- The first fault of functions behind others. -/
def fsG (p : Pg) (pre : List Fc) : List Fc → Option (Int × Int × Int)
  | [] => none
  | f :: r => match fnF p f (decide (pre.length = 0)) (decide (∃ g ∈ pre, g.name = f.name)) with
    | some e => inE (pre.length : Int) (some e)
    | none => fsG p (pre ++ [f]) r
/-- The first fault of a program. -/
def ckF (p : Pg) : Option (Int × Int × Int) := match csF p.consts with
  | some e => inE (-1) (some e)
  | none => if p.funcs.length = 0 then some (0, 0, 2) else if p.funcs.length > 128 then some (128, 0, 5) else fsG p [] p.funcs
theorem fsG_at {p : Pg} {l : List Fc} {i : Nat} {f : Fc} (h : l[i]? = some f) : fsG p (l.take i) (l.drop i) = match fnF p f (decide (i = 0)) (decide (∃ g ∈ l.take i, g.name = f.name)) with
    | some e => inE (i : Int) (some e)
    | none => fsG p (l.take (i + 1)) (l.drop (i + 1)) := by
  obtain ⟨hi, hc⟩ := List.getElem?_eq_some_iff.1 h
  have hl : (l.take i).length = i := by simp; omega
  rw [List.drop_eq_getElem_cons hi, hc, fsG, hl, take_push h]
theorem fnF_taken {p : Pg} {f : Fc} {m : Bool} {l : List Fc} (h : fnF p f m (decide (∃ g ∈ l, g.name = f.name)) = none) (hex : ∃ g ∈ l, g.name = f.name) : False := by
  rw [decide_eq_true hex] at h
  unfold fnF nmF at h
  by_cases h1 : spB f.name = false
  · rw [if_pos h1] at h; cases h
  · rw [if_neg h1] at h
    by_cases h2 : f.name.size > 32
    · rw [if_pos h2] at h; cases h
    · rw [if_neg h2, if_pos rfl] at h; cases h
/-- What is asked of a program that is checked. -/
def OkP (p : Pg) : Prop := (∀ c ∈ p.consts, OkC c) ∧ ∀ (i : Nat) (f : Fc), p.funcs[i]? = some f → f.code.length ≤ 9000000000000 ∧ f.name.size ≤ 9223372036854775807
set_option maxRecDepth 100000 in
set_option maxHeartbeats 6400000 in
theorem pcheck_any {w : World} {pv : Value} {p : Pg} (hp : PgV w pv p) (hok : OkP p) : Calls Tryz.prog 48 #[pv] w fun e w' => e = .returned (wiV (ckF p)) ∧ Below w.heap.size w w' := by
  have HPV := hide hp
  have HOK := hide hok
  obtain ⟨cv, fv, rfl, hc, hf⟩ := hp
  have HCO := hide (fun wx (hb : Below w.heap.size w wx) => checkConsts_any (hc.below hb (Nat.le_refl _)) hok.1)
  obtain ⟨_, ca, ccap, rfl, _, _, _⟩ := hc
  obtain ⟨fa, fcap, rfl, _, _, hat⟩ := hf.at
  have HAT := hide hat
  obtain ⟨NC, hNC⟩ : ∃ n, p.consts.length = n := ⟨_, rfl⟩
  obtain ⟨NF, hNF⟩ : ∃ n, Hid (p.funcs.length = n) := ⟨_, rfl⟩
  rw [hNC, unhide hNF] at HPV
  rw [hNC] at HCO
  rw [hNC, unhide hNF]
  obtain ⟨r, hr⟩ : ∃ r, Hid (ckF p = r) := ⟨_, rfl⟩
  rw [unhide hr]
  have hr' := unhide hr
  unfold ckF at hr'
  obtain ⟨o, ho⟩ : ∃ o, csF p.consts = o := ⟨_, rfl⟩
  rw [ho] at HCO hr'
  rw [unhide hNF] at hr'
  have HR := hide hr'
  have hb1 : Below w.heap.size w (w.alloc (.cells #[.slice ca NC ccap, .slice fa NF fcap] 25)) := (Below.refl _ w).alloc (Nat.le_refl _) _
  have HB1 := hide hb1
  have HC1 := hide (unhide HCO _ hb1)
  have hmm := @run_makeMap Tryz.prog
  clear hr hr' ho hNC hat hf hok hb1 HCO
  go_enter Tryz.func48, Tryz.ntmps48
  go_wp2_with fail
  refine (unhide HC1).mono ?_
  rintro e w2 ⟨rfl, hb2⟩
  obtain ⟨hbx, hBw, hwl⟩ := boxN (hb2.mono (by simp) : Below (w.heap.size + 1) (w.alloc (.cells #[.slice ca NC ccap, .slice fa NF fcap] 25)) w2)
  have p0 := hbx 0 _ rfl
  have p1 := hbx 1 _ rfl
  have BB := hide (hb2.mono (by simp) : Below (w.heap.size + 1) (w.alloc (.cells #[.slice ca NC ccap, .slice fa NF fcap] 25)) w2)
  have hB2 := hide hBw
  clear hb2 hbx hBw HC1
  cases o with
  | some q =>
    obtain ⟨q1, q2⟩ := q
    obtain rfl := unhide HR
    simp only [erV]
    go_wp2_with fail
    go_ret
    exact ⟨rfl, unhide hB2⟩
  | none =>
    simp only [erV]
    have hR2 := unhide HR
    simp only at hR2
    by_cases h0 : NF = 0
    · obtain rfl : r = some (0, 0, 2) := by rw [← hR2, if_pos h0]
      subst h0
      go_wp2_with fail
      go_ret
      exact ⟨rfl, unhide hB2⟩
    · rw [if_neg h0] at hR2
      have k0 : ((NF : Int) == 0) = false := beq_eq_false_iff_ne.2 (by omega)
      by_cases h1 : NF > 128
      · obtain rfl : r = some (128, 0, 5) := by rw [← hR2, if_pos h1]
        have k1 : (128 : Int) < (NF : Int) := by omega
        clear hR2
        go_wp2_with fail
        go_ret
        exact ⟨rfl, unhide hB2⟩
      · rw [if_neg h1] at hR2
        have k1 : decide ((128 : Int) < (NF : Int)) = false := decide_eq_false (by omega)
        have HR2 := hide hR2
        have BB3 := hide ((unhide BB).trans (((Below.refl _ w2).alloc (Nat.le_refl _) (.map #[] 0)).mono hwl))
        clear hR2 HR
        go_wp2_with fail
        clear hmm p0 p1
        go_loopg [36] NF (fun gg t36 wr => ∃ (i : Nat) (g : ByteArray → Option Nat), Hid (i + gg = NF) ∧ t36 = .int .i64 (i : Int) ∧ Hid (Below (w.heap.size + 1) (w.alloc (.cells #[.slice ca NC ccap, .slice fa NF fcap] 25)) wr) ∧ Hid (Mf wr w2.heap.size i g) ∧ Hid (∀ t, t.size ≤ maxLen → ((g t).isSome = true ↔ ∃ h ∈ p.funcs.take i, h.name = t)) ∧ Hid (fsG p (p.funcs.take i) (p.funcs.drop i) = r))
        case atStart => exact ⟨0, fun _ => none, by unfold Hid; omega, rfl, BB3, Mf.made w2, fun t _ => by simp, by unfold Hid; simpa using unhide HR2⟩
        case round =>
          obtain ⟨i, g, hi, rfl, hB0, hM, hF, hG⟩ := hrel
          obtain ⟨hbx, hBw, hwr⟩ := boxN (unhide hB0)
          have p0 := hbx 0 _ rfl
          have p1 := hbx 1 _ rfl
          have hB := hide hBw
          clear hbx hBw
          by_cases hlt : i < NF
          · obtain ⟨f, hf⟩ : ∃ f, p.funcs[i]? = some f := ⟨_, List.getElem?_eq_getElem (by rw [unhide hNF]; exact hlt)⟩
            obtain ⟨b, off, x, rfl, hb, hx, cs⟩ := unhide HAT i f hf
            obtain ⟨a1, c1, a2, c2, rfl⟩ := hx.parts
            obtain ⟨ok1, ok2⟩ := (unhide HOK).2 i f hf
            have k0' : wr.cell? ⟨b, off + i * 5, none⟩ = some (.string f.name) := ((unhide hB).cell (p := ⟨b, off + i * 5, none⟩) hb).trans (cs 0 _ rfl)
            have k1' : wr.cell? ⟨b, off + i * 5 + 1, none⟩ = some (.int .i64 f.params) := ((unhide hB).cell (p := ⟨b, off + i * 5 + 1, none⟩) hb).trans (cs 1 _ rfl)
            have k2' : wr.cell? ⟨b, off + i * 5 + 2, none⟩ = some (.int .i64 f.locals) := ((unhide hB).cell (p := ⟨b, off + i * 5 + 2, none⟩) hb).trans (cs 2 _ rfl)
            have k3' : wr.cell? ⟨b, off + i * 5 + 3, none⟩ = some (.slice a1 f.code.length c1) := ((unhide hB).cell (p := ⟨b, off + i * 5 + 3, none⟩) hb).trans (cs 3 _ rfl)
            have k4' : wr.cell? ⟨b, off + i * 5 + 4, none⟩ = some (.slice a2 f.hs.length c2) := ((unhide hB).cell (p := ⟨b, off + i * 5 + 4, none⟩) hb).trans (cs 4 _ rfl)
            have hbr := Nat.lt_of_lt_of_le hb (unhide hB).size
            have i0 : (0 : Int) ≤ (i : Int) := by omega
            have i1 : (i : Int) < (NF : Int) := by omega
            have hml := (unhide hM).lt
            have hba : Below wr.heap.size wr (wr.alloc (.cells #[.string f.name, .int .i64 f.params, .int .i64 f.locals, .slice a1 f.code.length c1, .slice a2 f.hs.length c2] 73)) := (Below.refl _ wr).alloc (Nat.le_refl _) _
            have hwa := (unhide hB).trans (hba.mono (unhide hB).size)
            have hCF := checkFunc_any ((unhide HPV).below hwa (Nat.le_refl _)) hf ok1 ok2 ((unhide hM).keep (hba.block w2.heap.size hml))
            have hG2 := unhide hG
            rw [fsG_at hf] at hG2
            have htk : (g f.name).isSome = decide (∃ h ∈ p.funcs.take i, h.name = f.name) := by
              by_cases q : ∃ h ∈ p.funcs.take i, h.name = f.name
              · rw [decide_eq_true q]; exact (unhide hF f.name ok2).2 q
              · rw [decide_eq_false q]
                cases e : (g f.name).isSome with
                | false => rfl
                | true => exact absurd ((unhide hF f.name ok2).1 e) q
            rw [htk] at hCF
            obtain ⟨o, ho⟩ : ∃ o, fnF p f (decide (i = 0)) (decide (∃ h ∈ p.funcs.take i, h.name = f.name)) = o := ⟨_, rfl⟩
            have HNONE := hide ho
            rw [ho] at hCF hG2
            have HCF := hide hCF
            have HG2 := hide hG2
            have HFF := hide hf
            have HTK := hide htk
            clear hCF hG2 cs hf hx ho htk
            go_wp2_with fail
            refine (unhide HCF).mono ?_
            rintro e w3 ⟨rfl, hb3⟩
            have hb3' : Below (wr.heap.size + 1) (wr.alloc (.cells #[.string f.name, .int .i64 f.params, .int .i64 f.locals, .slice a1 f.code.length c1, .slice a2 f.hs.length c2] 73)) w3 := hb3.mono (by simp)
            obtain ⟨gbx, gBw, gwl⟩ := boxN hb3'
            have x0 := gbx 0 _ rfl
            have hB3 := hide ((unhide hB0).trans (gBw.mono hwr))
            have hM3 := (unhide hM).keep (gBw.block w2.heap.size hml)
            have hBB3 := hide ((unhide hB).trans (gBw.mono (unhide hB).size))
            clear hb3 hb3' gbx HCF hba hwa
            cases o with
            | some q =>
              obtain ⟨q1, q2⟩ := q
              obtain rfl := unhide HG2
              simp only [erV]
              go_wp2_with fail
              go_ret
              exact ⟨rfl, unhide hBB3⟩
            | none =>
              simp only [erV]
              have HG3 := hide (show fsG p (p.funcs.take (i + 1)) (p.funcs.drop (i + 1)) = r from unhide HG2)
              have hgn : g f.name = none := by
                cases e : g f.name with
                | none => rfl
                | some v =>
                  exfalso
                  have h1 := unhide HTK
                  rw [e] at h1
                  have hex : ∃ h ∈ p.funcs.take i, h.name = f.name := of_decide_eq_true h1.symm
                  exact fnF_taken (unhide HNONE) hex
              obtain ⟨w4, hrun, hM4, hg4⟩ := hM3.put f.name ok2 hgn i (by omega) (by unfold maxLen; omega)
              have HM4 := hide hM4
              have hB4 := hide ((unhide hB3).trans (Fr.below (S := fun k => k = w2.heap.size) ((Fr.refl (fun k => k = w2.heap.size) w3).grown hg4 (fun k e => by cases e; exact .inr rfl)) (by omega) (fun k hk e => by omega)))
              have hF4 : Hid (∀ t, t.size ≤ maxLen → (((fun t => if t = f.name then some i else g t) t).isSome = true ↔ ∃ h ∈ p.funcs.take (i + 1), h.name = t)) := by
                intro t ht
                rw [take_push (unhide HFF)]
                by_cases e : t = f.name
                · subst e
                  simp
                · simp only [if_neg e, List.mem_append, List.mem_singleton]
                  rw [unhide hF t ht]
                  constructor
                  · rintro ⟨h, h1, h2⟩; exact ⟨h, .inl h1, h2⟩
                  · rintro ⟨h, h1 | h1, h2⟩
                    · exact ⟨h, h1, h2⟩
                    · subst h1; exact absurd h2.symm e
              clear hM4 hg4 hM3
              go_wp2_with fail
              go_roundg (gk - 1)
              case measure => have := unhide hi; omega
              case rel => exact ⟨i + 1, _, by have := unhide hi; unfold Hid; omega, by go_num, hB4, HM4, hF4, HG3⟩
          · have hiL : NF = i := by have := unhide hi; omega
            subst hiL
            obtain rfl : r = none := by
              rw [← unhide hG, List.drop_eq_nil_of_le (by rw [unhide hNF]; exact Nat.le_refl _)]
              rfl
            go_wp2_with fail
            go_ret
            exact ⟨rfl, unhide hB⟩
end
end Go.Proofs.YtlogmdldjmkkjaaGreatDoor
