/-
  Names.
-/
import Derived.Test.YtlogmdldjmkkjaaGreatDoorPRow
import Derived.Deep.RegionHeld3
namespace Go.Proofs.YtlogmdldjmkkjaaGreatDoor
open Go.RowKit
set_option linter.unusedVariables false
set_option linter.unusedSimpArgs false
/-- A handler that fits a function of n instructions. -/
def fitB (h : Hd) (n : Int) : Bool := decide (0 ≤ h.frm ∧ h.frm < h.to ∧ h.to ≤ n ∧ 0 ≤ h.target ∧ h.target < n ∧ 0 ≤ h.height ∧ h.height < 64)
theorem fit_yes {h : Hd} {n : Int} (k : 0 ≤ h.frm ∧ h.frm < h.to ∧ h.to ≤ n ∧ 0 ≤ h.target ∧ h.target < n ∧ 0 ≤ h.height ∧ h.height < 64) : fitB h n = true := decide_eq_true k
theorem fit_no {h : Hd} {n : Int} (k : ¬ (0 ≤ h.frm ∧ h.frm < h.to ∧ h.to ≤ n ∧ 0 ≤ h.target ∧ h.target < n ∧ 0 ≤ h.height ∧ h.height < 64)) : fitB h n = false := decide_eq_false k
set_option maxRecDepth 100000 in
set_option maxHeartbeats 3200000 in
theorem fits_any (h : Hd) (n : Int) (w : World) : Calls Tryz.prog 172 #[.agg #[.int .i64 h.frm, .int .i64 h.to, .int .i64 h.target, .int .i64 h.height], .int .i64 n] w fun e w' => e = .returned (.bool (fitB h n)) ∧ Below w.heap.size w w' := by
  have hB : Below w.heap.size w (w.alloc (.cells #[.int .i64 h.frm, .int .i64 h.to, .int .i64 h.target, .int .i64 h.height] 112)) := (Below.refl _ w).alloc (Nat.le_refl _) _
  obtain ⟨a, b, c, d⟩ := h
  simp only at hB ⊢
  obtain ⟨r, hr⟩ : ∃ r, Hid (fitB ⟨a, b, c, d⟩ n = r) := ⟨_, rfl⟩
  rw [unhide hr]
  have HB := hide hB
  clear hB
  have fin : ∀ (q : Bool), fitB ⟨a, b, c, d⟩ n = q → q = r := fun q hq => hq.symm.trans (unhide hr)
  have no : ¬ (0 ≤ a ∧ a < b ∧ b ≤ n ∧ 0 ≤ c ∧ c < n ∧ 0 ≤ d ∧ d < 64) → r = false := fun k => (fin _ (fit_no k)).symm
  have yes : (0 ≤ a ∧ a < b ∧ b ≤ n ∧ 0 ≤ c ∧ c < n ∧ 0 ≤ d ∧ d < 64) → r = true := fun k => (fin _ (fit_yes k)).symm
  have NO := hide no
  have YES := hide yes
  clear fin no yes hr
  by_cases h1 : 0 ≤ a
  · by_cases h2 : a < b
    · by_cases h3 : b ≤ n
      · by_cases h4 : 0 ≤ c
        · by_cases h5 : c < n
          · by_cases h6 : 0 ≤ d
            · by_cases h7 : d < 64
              · obtain rfl := unhide YES ⟨h1, h2, h3, h4, h5, h6, h7⟩
                go_enter Tryz.func172, Tryz.ntmps172
                go_wp2
                go_ret
                exact ⟨rfl, unhide HB⟩
              · (obtain rfl := unhide NO (by omega); go_enter Tryz.func172, Tryz.ntmps172; go_wp2; go_ret; exact ⟨rfl, unhide HB⟩)
            · (obtain rfl := unhide NO (by omega); go_enter Tryz.func172, Tryz.ntmps172; go_wp2; go_ret; exact ⟨rfl, unhide HB⟩)
          · (obtain rfl := unhide NO (by omega); go_enter Tryz.func172, Tryz.ntmps172; go_wp2; go_ret; exact ⟨rfl, unhide HB⟩)
        · (obtain rfl := unhide NO (by omega); go_enter Tryz.func172, Tryz.ntmps172; go_wp2; go_ret; exact ⟨rfl, unhide HB⟩)
      · (obtain rfl := unhide NO (by omega); go_enter Tryz.func172, Tryz.ntmps172; go_wp2; go_ret; exact ⟨rfl, unhide HB⟩)
    · (obtain rfl := unhide NO (by omega); go_enter Tryz.func172, Tryz.ntmps172; go_wp2; go_ret; exact ⟨rfl, unhide HB⟩)
  · (obtain rfl := unhide NO (by omega); go_enter Tryz.func172, Tryz.ntmps172; go_wp2; go_ret; exact ⟨rfl, unhide HB⟩)

set_option linter.unusedVariables false
set_option linter.unusedSimpArgs false
/-- A fault, as an error. -/
def erV : Option (Int × Int) → Value
  | none => .nilIface
  | some (a, y) => .iface 138 (.agg #[.int .i64 a, .int .i64 y])
theorem boxN {w wr : World} {arr : Array Value} {e : TypeId} (h : Below (w.heap.size + 1) (w.alloc (.cells arr e)) wr) : (∀ (j : Nat) u, arr.toList[j]? = some u → wr.cell? ⟨w.heap.size, j, none⟩ = some u) ∧ Below w.heap.size w wr ∧ w.heap.size < wr.heap.size := by
  have hs := h.size
  simp only [World.size_alloc] at hs
  refine ⟨fun j u hu => ?_, ((Below.refl _ w).alloc (Nat.le_refl _) _).trans (h.mono (Nat.le_succ _)), by omega⟩
  have n0 := new_cells w arr e j u hu
  rw [Go.WideShapes.add_plain, Nat.zero_add] at n0
  exact (h.cell (p := ⟨w.heap.size, j, none⟩) (Nat.lt_succ_self _)).trans n0
theorem FnV.parts {w : World} {f : Fc} {x : Fv} (h : FnV w f x) : ∃ a1 c1 a2 c2, x = ⟨f.name, f.params, f.locals, .slice a1 f.code.length c1, .slice a2 f.hs.length c2⟩ := by
  obtain ⟨e1, e2, e3, ⟨_, a1, c1, e4, _⟩, ⟨_, a2, c2, e5, _⟩⟩ := h
  obtain ⟨x1, x2, x3, x4, x5⟩ := x
  simp only at e1 e2 e3 e4 e5
  subst e1 e2 e3 e4 e5
  exact ⟨a1, c1, a2, c2, rfl⟩
/-- The fault of a function's sizes. -/
def szF (f : Fc) (main : Bool) : Option (Int × Int) :=
  if f.params < 0 ∨ f.locals < f.params ∨ (main = true ∧ f.params ≠ 0) then some (0, 1)
  else if f.locals > 64 then some (0, 5) else if f.code.length = 0 then some (0, 2) else if f.code.length > 2000 then some (2000, 5) else none
/-- The first fault of its handlers. -/
def hsG (n : Int) : List Hd → Nat → Option (Int × Int)
  | [], _ => none
  | h :: r, i => if fitB h n then hsG n r (i + 1) else some ((i : Int), 8)
def hsF (f : Fc) : Option (Int × Int) := if f.hs.length > 32 then some (32, 5) else hsG f.code.length f.hs 0
theorem hsG_bad {n : Int} : ∀ {l : List Hd} {i k : Nat} {h : Hd}, l[i]? = some h → fitB h n = false → (∀ (j : Nat) (g : Hd), j < i → l[j]? = some g → fitB g n = true) → hsG n l k = some (((k + i : Nat) : Int), 8)
  | g :: r, 0, k, h, e, hb, _ => by simp at e; subst e; simp [hsG, hb]
  | g :: r, i + 1, k, h, e, hb, ha => by
    have h0 := ha 0 g (by omega) rfl
    simp at e
    rw [hsG, h0, if_pos rfl, hsG_bad e hb (fun j g' hj hg => ha (j + 1) g' (by omega) (by simpa using hg))]
    congr 2
    omega
theorem hsG_ok {n : Int} : ∀ {l : List Hd} {k : Nat}, (∀ (j : Nat) (g : Hd), l[j]? = some g → fitB g n = true) → hsG n l k = none
  | [], k, _ => rfl
  | g :: r, k, ha => by
    rw [hsG, ha 0 g rfl, if_pos rfl]
    exact hsG_ok (fun j g' hg => ha (j + 1) g' (by simpa using hg))
set_option maxRecDepth 100000 in
set_option maxHeartbeats 3200000 in
theorem checkSizes_any {w : World} {f : Fc} {x : Fv} (h : FnV w f x) (main : Bool) : Calls Tryz.prog 130 #[.agg #[.string x.name, .int .i64 x.params, .int .i64 x.locals, x.cv, x.hv], .bool main] w fun e w' => e = .returned (erV (szF f main)) ∧ Below w.heap.size w w' := by
  obtain ⟨a1, c1, a2, c2, rfl⟩ := h.parts
  simp only
  have HB := hide ((Below.refl _ w).alloc (Nat.le_refl _) (.cells #[.string f.name, .int .i64 f.params, .int .i64 f.locals, .slice a1 f.code.length c1, .slice a2 f.hs.length c2] 73))
  obtain ⟨r, hr⟩ : ∃ r, Hid (szF f main = r) := ⟨_, rfl⟩
  rw [unhide hr]
  clear h
  by_cases h1 : f.params < 0
  · obtain rfl : r = some (0, 1) := by rw [← unhide hr]; unfold szF; rw [if_pos (.inl h1)]
    (go_enter Tryz.func130, Tryz.ntmps130; go_wp2; all_goals (go_ret; exact ⟨rfl, (Below.refl _ w).alloc (Nat.le_refl _) _⟩))
  · by_cases h2 : f.locals < f.params
    · obtain rfl : r = some (0, 1) := by rw [← unhide hr]; unfold szF; rw [if_pos (.inr (.inl h2))]
      (go_enter Tryz.func130, Tryz.ntmps130; go_wp2; all_goals (go_ret; exact ⟨rfl, (Below.refl _ w).alloc (Nat.le_refl _) _⟩))
    · by_cases h3 : main = true ∧ f.params ≠ 0
      · obtain rfl : r = some (0, 1) := by rw [← unhide hr]; unfold szF; rw [if_pos (.inr (.inr h3))]
        obtain ⟨rfl, h4⟩ := h3
        have h5 : (f.params != 0) = true := by simpa using h4
        (go_enter Tryz.func130, Tryz.ntmps130; go_wp2; all_goals (go_ret; exact ⟨rfl, (Below.refl _ w).alloc (Nat.le_refl _) _⟩))
      · have hno : ¬ (f.params < 0 ∨ f.locals < f.params ∨ (main = true ∧ f.params ≠ 0)) := fun q => by rcases q with q | q | q <;> contradiction
        have k0 : decide (f.params < 0) = false := decide_eq_false h1
        have k1 : decide (f.locals < f.params) = false := decide_eq_false h2
        have hsz : szF f main = if f.locals > 64 then some (0, 5) else if f.code.length = 0 then some (0, 2) else if f.code.length > 2000 then some (2000, 5) else none := by unfold szF; rw [if_neg hno]
        rw [hsz] at hr
        have hm : main = false ∨ f.params = 0 := by
          cases main
          · exact .inl rfl
          · exact .inr (Classical.byContradiction fun q => h3 ⟨rfl, q⟩)
        clear hsz hno h3
        by_cases h4 : f.locals > 64
        · obtain rfl : r = some (0, 5) := by rw [← unhide hr, if_pos h4]
          rcases hm with rfl | hm
          · (go_enter Tryz.func130, Tryz.ntmps130; go_wp2; all_goals (go_ret; exact ⟨rfl, (Below.refl _ w).alloc (Nat.le_refl _) _⟩))
          · have hm2 : (f.params != 0) = false := by simp [hm]
            cases main <;> (go_enter Tryz.func130, Tryz.ntmps130; go_wp2; all_goals (go_ret; exact ⟨rfl, (Below.refl _ w).alloc (Nat.le_refl _) _⟩))
        · rw [if_neg h4] at hr
          have k4 : decide (f.locals > 64) = false := decide_eq_false h4
          by_cases h5 : f.code.length = 0
          · obtain rfl : r = some (0, 2) := by rw [← unhide hr, if_pos h5]
            have k5 : ((f.code.length : Int) == 0) = true := by simp [h5]
            rcases hm with rfl | hm
            · (go_enter Tryz.func130, Tryz.ntmps130; go_wp2; all_goals (go_ret; exact ⟨rfl, (Below.refl _ w).alloc (Nat.le_refl _) _⟩))
            · have hm2 : (f.params != 0) = false := by simp [hm]
              cases main <;> (go_enter Tryz.func130, Tryz.ntmps130; go_wp2; all_goals (go_ret; exact ⟨rfl, (Below.refl _ w).alloc (Nat.le_refl _) _⟩))
          · rw [if_neg h5] at hr
            have k5 : ((f.code.length : Int) == 0) = false := beq_eq_false_iff_ne.2 (by omega)
            have k5' : 0 < f.code.length := by omega
            by_cases h6 : f.code.length > 2000
            · obtain rfl : r = some (2000, 5) := by rw [← unhide hr, if_pos h6]
              have k6 : (2000 : Int) < (f.code.length : Int) := by omega
              rcases hm with rfl | hm
              · (go_enter Tryz.func130, Tryz.ntmps130; go_wp2; all_goals (go_ret; exact ⟨rfl, (Below.refl _ w).alloc (Nat.le_refl _) _⟩))
              · have hm2 : (f.params != 0) = false := by simp [hm]
                cases main <;> (go_enter Tryz.func130, Tryz.ntmps130; go_wp2; all_goals (go_ret; exact ⟨rfl, (Below.refl _ w).alloc (Nat.le_refl _) _⟩))
            · rw [if_neg h6] at hr
              obtain rfl : r = none := (unhide hr).symm
              have k6 : decide ((2000 : Int) < (f.code.length : Int)) = false := decide_eq_false (by omega)
              rcases hm with rfl | hm
              · (go_enter Tryz.func130, Tryz.ntmps130; go_wp2; all_goals (go_ret; exact ⟨rfl, (Below.refl _ w).alloc (Nat.le_refl _) _⟩))
              · have hm2 : (f.params != 0) = false := by simp [hm]
                cases main <;> (go_enter Tryz.func130, Tryz.ntmps130; go_wp2; all_goals (go_ret; exact ⟨rfl, (Below.refl _ w).alloc (Nat.le_refl _) _⟩))

set_option maxRecDepth 100000 in
set_option maxHeartbeats 3200000 in
theorem checkHandlers_any {w : World} {f : Fc} {x : Fv} (h : FnV w f x) (hN : f.code.length ≤ 9000000000000) : Calls Tryz.prog 132 #[.agg #[.string x.name, .int .i64 x.params, .int .i64 x.locals, x.cv, x.hv]] w fun e w' => e = .returned (erV (hsF f)) ∧ Below w.heap.size w w' := by
  obtain ⟨a1, c1, a2, c2, rfl⟩ := h.parts
  simp only
  have HB := hide ((Below.refl _ w).alloc (Nat.le_refl _) (.cells #[.string f.name, .int .i64 f.params, .int .i64 f.locals, .slice a1 f.code.length c1, .slice a2 f.hs.length c2] 73))
  have HEL := hide (fun i p (hp : f.hs[i]? = some p) => h.2.2.2.2.elem zH hp)
  simp only at HEL
  obtain ⟨L, hL⟩ : ∃ L, Hid (f.hs.length = L) := ⟨_, rfl⟩
  obtain ⟨r, hr⟩ : ∃ r, Hid (hsF f = r) := ⟨_, rfl⟩
  rw [unhide hr]
  clear h
  by_cases h1 : f.hs.length > 32
  · obtain rfl : r = some (32, 5) := by rw [← unhide hr]; unfold hsF; rw [if_pos h1]
    have k1 : (32 : Int) < (f.hs.length : Int) := by omega
    go_enter Tryz.func132, Tryz.ntmps132
    go_wp2_with fail
    go_ret
    exact ⟨rfl, unhide HB⟩
  · have hr2 : hsF f = hsG f.code.length f.hs 0 := by unfold hsF; rw [if_neg h1]
    rw [hr2] at hr
    rw [unhide hL] at h1 HEL ⊢
    have HR := hr
    clear hr hr2
    have k1 : decide ((32 : Int) < (L : Int)) = false := decide_eq_false (by omega)
    obtain ⟨NC, hNC⟩ : ∃ L, Hid (f.code.length = L) := ⟨_, rfl⟩
    rw [unhide hNC] at hN HR ⊢
    go_enter Tryz.func132, Tryz.ntmps132
    go_wp2_with fail
    go_loopg [14] L (fun gg t14 wr => ∃ (i : Nat), Hid (i + gg = L) ∧ t14 = .int .i64 (i : Int) ∧ Hid (Below (w.heap.size + 1) (w.alloc (.cells #[.string f.name, .int .i64 f.params, .int .i64 f.locals, .slice a1 NC c1, .slice a2 L c2] 73)) wr) ∧ Hid (∀ (j : Nat) (g : Hd), j < i → f.hs[j]? = some g → fitB g NC = true))
    case atStart => exact ⟨0, by unfold Hid; omega, rfl, Below.refl _ _, by unfold Hid; intro j g hj; omega⟩
    case round =>
      obtain ⟨i, hi, rfl, hB0, hM⟩ := hrel
      obtain ⟨hbx, hB', hbl⟩ := boxN (unhide hB0)
      have b3 := hbx 3 _ rfl
      have b4 := hbx 4 _ rfl
      have hB := hide hB'
      clear hbx hB'
      by_cases hlt : i < L
      · obtain ⟨p, hp⟩ : ∃ p, f.hs[i]? = some p := ⟨_, List.getElem?_eq_getElem (by rw [unhide hL]; exact hlt)⟩
        obtain ⟨b, off, _, e, _, _, hb, c⟩ := unhide HEL i p hp
        cases e
        have k0 : wr.cell? ⟨b, off + i * 4, none⟩ = some (.int .i64 p.frm) := ((unhide hB).cell (p := ⟨b, off + i * 4, none⟩) hb).trans (c 0 _ rfl)
        have k1' : wr.cell? ⟨b, off + i * 4 + 1, none⟩ = some (.int .i64 p.to) := ((unhide hB).cell (p := ⟨b, off + i * 4 + 1, none⟩) hb).trans (c 1 _ rfl)
        have k2 : wr.cell? ⟨b, off + i * 4 + 2, none⟩ = some (.int .i64 p.target) := ((unhide hB).cell (p := ⟨b, off + i * 4 + 2, none⟩) hb).trans (c 2 _ rfl)
        have k3 : wr.cell? ⟨b, off + i * 4 + 3, none⟩ = some (.int .i64 p.height) := ((unhide hB).cell (p := ⟨b, off + i * 4 + 3, none⟩) hb).trans (c 3 _ rfl)
        have hbr := Nat.lt_of_lt_of_le hb (unhide hB).size
        have i0 : (0 : Int) ≤ (i : Int) := by omega
        have i1 : (i : Int) < (L : Int) := by omega
        have HF := hide (fun wx => fits_any p NC wx)
        have HP := hide hp
        have hB2 := hide ((unhide hB0).trans (((Below.refl _ wr).alloc (Nat.le_refl _) (.cells #[.int .i64 p.frm, .int .i64 p.to, .int .i64 p.target, .int .i64 p.height] 112)).mono hbl))
        clear c hp
        go_wp2_with fail
        refine (unhide HF _).mono ?_
        rintro e w2 ⟨rfl, hb2⟩
        have hB3 := hide ((unhide hB2).trans (hb2.mono (by simp; omega)))
        have hB4 := hide ((boxN (unhide hB3)).2.1)
        clear hb2
        cases hq : fitB p NC
        · obtain rfl : r = some ((i : Int), 8) := by
            rw [← unhide HR, hsG_bad (unhide HP) hq (unhide hM)]
            simp
          go_wp2_with fail
          go_ret
          exact ⟨rfl, unhide hB4⟩
        · go_wp2_with fail
          go_roundg (gk - 1)
          case measure => have := unhide hi; omega
          case rel => exact ⟨i + 1, by have := unhide hi; unfold Hid; omega, by go_num, hB3, by
            unfold Hid
            intro j g hj hg
            by_cases q : j = i
            · subst q
              rw [unhide HP] at hg
              cases hg
              exact hq
            · exact unhide hM j g (by omega) hg⟩
      · have hiL : L = i := by have := unhide hi; omega
        subst hiL
        obtain rfl : r = none := by
          rw [← unhide HR]
          exact hsG_ok (fun j g hg => unhide hM j g (by have := (List.getElem?_eq_some_iff.1 hg).1; rw [unhide hL] at this; exact this) hg)
        go_wp2_with fail
        go_ret
        exact ⟨rfl, unhide hB⟩

set_option linter.unusedVariables false
set_option linter.unusedSimpArgs false
/-- A byte of a right name. -/
def letN (b : Nat) : Bool := decide ((97 ≤ b ∧ b ≤ 122) ∨ (65 ≤ b ∧ b ≤ 90) ∨ (48 ≤ b ∧ b ≤ 57) ∨ b = 95)
/-- Are all bytes of a name right, and is there one? -/
def allL (s : ByteArray) : Bool := decide (∀ i, (h : i < s.size) → letN (s[i]).toNat = true)
def spB (s : ByteArray) : Bool := allL s && decide (0 < s.size)
theorem nine (b : Nat) (hb : b < 256) : (0 ≤ b ∧ b ≤ 47) ∨ (48 ≤ b ∧ b ≤ 57) ∨ (58 ≤ b ∧ b ≤ 64) ∨ (65 ≤ b ∧ b ≤ 90) ∨ (91 ≤ b ∧ b ≤ 94) ∨ (95 ≤ b ∧ b ≤ 95) ∨ (96 ≤ b ∧ b ≤ 96) ∨ (97 ≤ b ∧ b ≤ 122) ∨ (123 ≤ b ∧ b ≤ 255) := by omega
set_option maxRecDepth 100000 in
set_option maxHeartbeats 6400000 in
theorem spelt_any (s : ByteArray) (hs : s.size ≤ 9223372036854775807) (w : World) : Calls Tryz.prog 170 #[.string s] w fun e w' => e = .returned (.bool (spB s)) ∧ w' = w := by
  obtain ⟨r, hr⟩ : ∃ r, Hid (spB s = r) := ⟨_, rfl⟩
  rw [unhide hr]
  go_enter Tryz.func170, Tryz.ntmps170
  go_wp2_with fail
  go_loopg [7] s.size (fun gg t7 wr => ∃ (i : Nat), Hid (i + gg = s.size) ∧ t7 = .int .i64 (i : Int) ∧ wr = w ∧ Hid (∀ j, (h : j < s.size) → j < i → letN (s[j]).toNat = true))
  case atStart => exact ⟨0, by unfold Hid; omega, rfl, rfl, by unfold Hid; intro j h hj; omega⟩
  case round =>
    obtain ⟨i, hi, rfl, rfl, hM⟩ := hrel
    by_cases hlt : i < s.size
    · have i0 : (0 : Int) ≤ (i : Int) := by omega
      have i1 : (i : Int) < (s.size : Int) := by omega
      have hb256 : (s[i]).toNat < 256 := (s[i]).toNat_lt
      rcases nine (s[i]).toNat hb256 with ⟨u, v⟩ | ⟨u, v⟩ | ⟨u, v⟩ | ⟨u, v⟩ | ⟨u, v⟩ | ⟨u, v⟩ | ⟨u, v⟩ | ⟨u, v⟩ | ⟨u, v⟩
      · have hL : Hid (letN (s[i]).toNat = false) := by unfold letN Hid; exact decide_eq_false (by omega)
        have q1 : decide ((97 : Int) ≤ ((s[i]).toNat : Int)) = false := decide_eq_false (by omega)
        have q2 : decide ((65 : Int) ≤ ((s[i]).toNat : Int)) = false := decide_eq_false (by omega)
        have q3 : decide ((48 : Int) ≤ ((s[i]).toNat : Int)) = false := decide_eq_false (by omega)
        have q4 : ((s[i]).toNat : Int) ≤ (122 : Int) := by omega
        have q5 : ((s[i]).toNat : Int) ≤ (90 : Int) := by omega
        have q6 : ((s[i]).toNat : Int) ≤ (57 : Int) := by omega
        have q7 : (((s[i]).toNat : Int) == 95) = false := beq_eq_false_iff_ne.2 (by omega)
        clear u v hb256
        obtain rfl : r = false := by
          rw [← unhide hr]
          have : allL s = false := decide_eq_false (fun k => by have := k i hlt; rw [unhide hL] at this; cases this)
          simp [spB, this]
        go_wp2_with fail
        go_ret
        exact ⟨rfl, rfl⟩
      · have hL : Hid (letN (s[i]).toNat = true) := by unfold letN Hid; exact decide_eq_true (by omega)
        have q1 : decide ((97 : Int) ≤ ((s[i]).toNat : Int)) = false := decide_eq_false (by omega)
        have q2 : decide ((65 : Int) ≤ ((s[i]).toNat : Int)) = false := decide_eq_false (by omega)
        have q3 : (48 : Int) ≤ ((s[i]).toNat : Int) := by omega
        have q4 : ((s[i]).toNat : Int) ≤ (122 : Int) := by omega
        have q5 : ((s[i]).toNat : Int) ≤ (90 : Int) := by omega
        have q6 : ((s[i]).toNat : Int) ≤ (57 : Int) := by omega
        have q7 : (((s[i]).toNat : Int) == 95) = false := beq_eq_false_iff_ne.2 (by omega)
        clear u v hb256
        go_wp2_with fail
        go_roundg (gk - 1)
        case measure => have := unhide hi; omega
        case rel => exact ⟨i + 1, by have := unhide hi; unfold Hid; omega, by go_num, rfl, by
          unfold Hid
          intro j h hj
          by_cases q : j = i
          · subst q; exact unhide hL
          · exact unhide hM j h (by omega)⟩
      · have hL : Hid (letN (s[i]).toNat = false) := by unfold letN Hid; exact decide_eq_false (by omega)
        have q1 : decide ((97 : Int) ≤ ((s[i]).toNat : Int)) = false := decide_eq_false (by omega)
        have q2 : decide ((65 : Int) ≤ ((s[i]).toNat : Int)) = false := decide_eq_false (by omega)
        have q3 : (48 : Int) ≤ ((s[i]).toNat : Int) := by omega
        have q4 : ((s[i]).toNat : Int) ≤ (122 : Int) := by omega
        have q5 : ((s[i]).toNat : Int) ≤ (90 : Int) := by omega
        have q6 : decide (((s[i]).toNat : Int) ≤ (57 : Int)) = false := decide_eq_false (by omega)
        have q7 : (((s[i]).toNat : Int) == 95) = false := beq_eq_false_iff_ne.2 (by omega)
        clear u v hb256
        obtain rfl : r = false := by
          rw [← unhide hr]
          have : allL s = false := decide_eq_false (fun k => by have := k i hlt; rw [unhide hL] at this; cases this)
          simp [spB, this]
        go_wp2_with fail
        go_ret
        exact ⟨rfl, rfl⟩
      · have hL : Hid (letN (s[i]).toNat = true) := by unfold letN Hid; exact decide_eq_true (by omega)
        have q1 : decide ((97 : Int) ≤ ((s[i]).toNat : Int)) = false := decide_eq_false (by omega)
        have q2 : (65 : Int) ≤ ((s[i]).toNat : Int) := by omega
        have q3 : (48 : Int) ≤ ((s[i]).toNat : Int) := by omega
        have q4 : ((s[i]).toNat : Int) ≤ (122 : Int) := by omega
        have q5 : ((s[i]).toNat : Int) ≤ (90 : Int) := by omega
        have q6 : decide (((s[i]).toNat : Int) ≤ (57 : Int)) = false := decide_eq_false (by omega)
        have q7 : (((s[i]).toNat : Int) == 95) = false := beq_eq_false_iff_ne.2 (by omega)
        clear u v hb256
        go_wp2_with fail
        go_roundg (gk - 1)
        case measure => have := unhide hi; omega
        case rel => exact ⟨i + 1, by have := unhide hi; unfold Hid; omega, by go_num, rfl, by
          unfold Hid
          intro j h hj
          by_cases q : j = i
          · subst q; exact unhide hL
          · exact unhide hM j h (by omega)⟩
      · have hL : Hid (letN (s[i]).toNat = false) := by unfold letN Hid; exact decide_eq_false (by omega)
        have q1 : decide ((97 : Int) ≤ ((s[i]).toNat : Int)) = false := decide_eq_false (by omega)
        have q2 : (65 : Int) ≤ ((s[i]).toNat : Int) := by omega
        have q3 : (48 : Int) ≤ ((s[i]).toNat : Int) := by omega
        have q4 : ((s[i]).toNat : Int) ≤ (122 : Int) := by omega
        have q5 : decide (((s[i]).toNat : Int) ≤ (90 : Int)) = false := decide_eq_false (by omega)
        have q6 : decide (((s[i]).toNat : Int) ≤ (57 : Int)) = false := decide_eq_false (by omega)
        have q7 : (((s[i]).toNat : Int) == 95) = false := beq_eq_false_iff_ne.2 (by omega)
        clear u v hb256
        obtain rfl : r = false := by
          rw [← unhide hr]
          have : allL s = false := decide_eq_false (fun k => by have := k i hlt; rw [unhide hL] at this; cases this)
          simp [spB, this]
        go_wp2_with fail
        go_ret
        exact ⟨rfl, rfl⟩
      · have hL : Hid (letN (s[i]).toNat = true) := by unfold letN Hid; exact decide_eq_true (by omega)
        have q1 : decide ((97 : Int) ≤ ((s[i]).toNat : Int)) = false := decide_eq_false (by omega)
        have q2 : (65 : Int) ≤ ((s[i]).toNat : Int) := by omega
        have q3 : (48 : Int) ≤ ((s[i]).toNat : Int) := by omega
        have q4 : ((s[i]).toNat : Int) ≤ (122 : Int) := by omega
        have q5 : decide (((s[i]).toNat : Int) ≤ (90 : Int)) = false := decide_eq_false (by omega)
        have q6 : decide (((s[i]).toNat : Int) ≤ (57 : Int)) = false := decide_eq_false (by omega)
        have q7 : (((s[i]).toNat : Int) == 95) = true := beq_iff_eq.2 (by omega)
        clear u v hb256
        go_wp2_with fail
        go_roundg (gk - 1)
        case measure => have := unhide hi; omega
        case rel => exact ⟨i + 1, by have := unhide hi; unfold Hid; omega, by go_num, rfl, by
          unfold Hid
          intro j h hj
          by_cases q : j = i
          · subst q; exact unhide hL
          · exact unhide hM j h (by omega)⟩
      · have hL : Hid (letN (s[i]).toNat = false) := by unfold letN Hid; exact decide_eq_false (by omega)
        have q1 : decide ((97 : Int) ≤ ((s[i]).toNat : Int)) = false := decide_eq_false (by omega)
        have q2 : (65 : Int) ≤ ((s[i]).toNat : Int) := by omega
        have q3 : (48 : Int) ≤ ((s[i]).toNat : Int) := by omega
        have q4 : ((s[i]).toNat : Int) ≤ (122 : Int) := by omega
        have q5 : decide (((s[i]).toNat : Int) ≤ (90 : Int)) = false := decide_eq_false (by omega)
        have q6 : decide (((s[i]).toNat : Int) ≤ (57 : Int)) = false := decide_eq_false (by omega)
        have q7 : (((s[i]).toNat : Int) == 95) = false := beq_eq_false_iff_ne.2 (by omega)
        clear u v hb256
        obtain rfl : r = false := by
          rw [← unhide hr]
          have : allL s = false := decide_eq_false (fun k => by have := k i hlt; rw [unhide hL] at this; cases this)
          simp [spB, this]
        go_wp2_with fail
        go_ret
        exact ⟨rfl, rfl⟩
      · have hL : Hid (letN (s[i]).toNat = true) := by unfold letN Hid; exact decide_eq_true (by omega)
        have q1 : (97 : Int) ≤ ((s[i]).toNat : Int) := by omega
        have q2 : (65 : Int) ≤ ((s[i]).toNat : Int) := by omega
        have q3 : (48 : Int) ≤ ((s[i]).toNat : Int) := by omega
        have q4 : ((s[i]).toNat : Int) ≤ (122 : Int) := by omega
        have q5 : decide (((s[i]).toNat : Int) ≤ (90 : Int)) = false := decide_eq_false (by omega)
        have q6 : decide (((s[i]).toNat : Int) ≤ (57 : Int)) = false := decide_eq_false (by omega)
        have q7 : (((s[i]).toNat : Int) == 95) = false := beq_eq_false_iff_ne.2 (by omega)
        clear u v hb256
        go_wp2_with fail
        go_roundg (gk - 1)
        case measure => have := unhide hi; omega
        case rel => exact ⟨i + 1, by have := unhide hi; unfold Hid; omega, by go_num, rfl, by
          unfold Hid
          intro j h hj
          by_cases q : j = i
          · subst q; exact unhide hL
          · exact unhide hM j h (by omega)⟩
      · have hL : Hid (letN (s[i]).toNat = false) := by unfold letN Hid; exact decide_eq_false (by omega)
        have q1 : (97 : Int) ≤ ((s[i]).toNat : Int) := by omega
        have q2 : (65 : Int) ≤ ((s[i]).toNat : Int) := by omega
        have q3 : (48 : Int) ≤ ((s[i]).toNat : Int) := by omega
        have q4 : decide (((s[i]).toNat : Int) ≤ (122 : Int)) = false := decide_eq_false (by omega)
        have q5 : decide (((s[i]).toNat : Int) ≤ (90 : Int)) = false := decide_eq_false (by omega)
        have q6 : decide (((s[i]).toNat : Int) ≤ (57 : Int)) = false := decide_eq_false (by omega)
        have q7 : (((s[i]).toNat : Int) == 95) = false := beq_eq_false_iff_ne.2 (by omega)
        clear u v hb256
        obtain rfl : r = false := by
          rw [← unhide hr]
          have : allL s = false := decide_eq_false (fun k => by have := k i hlt; rw [unhide hL] at this; cases this)
          simp [spB, this]
        go_wp2_with fail
        go_ret
        exact ⟨rfl, rfl⟩
    · have hiL : i = s.size := by have := unhide hi; omega
      have hal : allL s = true := decide_eq_true (fun j h => unhide hM j h (by omega))
      have hres : r = decide (0 < s.size) := by rw [← unhide hr]; simp [spB, hal]
      have i1 : decide ((i : Int) < (s.size : Int)) = false := decide_eq_false (by omega)
      have hte : s.toList.length = s.size := by rw [ByteArray.toList_eq]; exact Array.length_toList
      by_cases h0 : s.size = 0
      · obtain rfl : r = false := by rw [hres]; simp [h0]
        have q9 : s.toList.isEmpty = true := by rw [List.isEmpty_iff]; exact List.eq_nil_of_length_eq_zero (by omega)
        have H0 := hide h0
        clear h0 hte hal hres hiL
        go_wp2_with fail
        go_ret
        refine ⟨?_, rfl⟩
        first | (simp [q9]; done) | (have := unhide H0; simp [q9]; omega)
      · obtain rfl : r = true := by rw [hres]; exact decide_eq_true (by omega)
        have q9 : s.toList.isEmpty = false := by
          cases e : s.toList with
          | nil => rw [e] at hte; simp at hte; omega
          | cons a b => rfl
        have H0 := hide h0
        clear h0 hte hal hres hiL
        go_wp2_with fail
        go_ret
        refine ⟨?_, rfl⟩
        first | (simp [q9]; done) | (have := unhide H0; simp [q9]; omega)
end Go.Proofs.YtlogmdldjmkkjaaGreatDoor
