/-
  RightName, Find, right.
-/
import Derived.Test.YtfaafamdjcojlaaDoorHFound
namespace Go.Proofs.YtfaafamdjcojlaaDoor
open Go.RowKit
set_option linter.unusedVariables false
set_option linter.unusedSimpArgs false
set_option maxRecDepth 100000
noncomputable section
def fnd (fs : List ByteArray) (s : ByteArray) : Option Nat := fs.findIdx? (fun f => f.toList == s.toList)
def fndN (fs : List ByteArray) (s : ByteArray) : Int := match fnd fs s with | some k => (k : Int) | none => 0
def fndB (fs : List ByteArray) (s : ByteArray) : Bool := (fnd fs s).isSome
theorem fnd_hit {fs : List ByteArray} {s : ByteArray} {i : Nat} {f : ByteArray} (h : fs[i]? = some f) (e : (f.toList == s.toList) = true) (hm : ∀ (j : Nat) (f : ByteArray), j < i → fs[j]? = some f → (f.toList == s.toList) = false) : fnd fs s = some i := by
  unfold fnd
  rw [List.findIdx?_eq_some_iff_getElem]
  obtain ⟨hi, hf⟩ := List.getElem?_eq_some_iff.1 h
  refine ⟨hi, by rw [hf]; exact e, fun j hj => ?_⟩
  have := hm j _ hj (List.getElem?_eq_getElem (by omega))
  rw [this]; simp
theorem fnd_miss {fs : List ByteArray} {s : ByteArray} (hm : ∀ (j : Nat) (f : ByteArray), j < fs.length → fs[j]? = some f → (f.toList == s.toList) = false) : fnd fs s = none := by
  unfold fnd
  rw [List.findIdx?_eq_none_iff]
  intro f hf
  obtain ⟨j, hj, e⟩ := List.getElem_of_mem hf
  have := hm j f hj (by rw [← e]; exact List.getElem?_eq_getElem hj)
  rw [this]
def PgN (w : World) (v : Value) (ns : List ByteArray) : Prop :=
  ∃ ca cn ccap a cap, v = .agg #[.slice ca cn ccap, .slice a ns.length cap] ∧ ∀ (i : Nat) (nm : ByteArray), ns[i]? = some nm → ∃ b off pr lc a1 n1 c1 a2 n2 c2, a = some ⟨b, off, none⟩ ∧ b < w.heap.size ∧ ∀ (j : Nat) u, (enF ⟨nm, pr, lc, .slice a1 n1 c1, .slice a2 n2 c2⟩)[j]? = some u → w.cell? ⟨b, off + i * 5 + j, none⟩ = some u
theorem PgV.pgn {w : World} {v : Value} {p : Pg} (h : PgV w v p) : PgN w v (p.funcs.map (·.name)) := by
  obtain ⟨cv, fv, rfl, hc, hf⟩ := h
  obtain ⟨a, cap, rfl, _, _, hat⟩ := hf.at
  obtain ⟨_, ca, ccap, rfl, _, _, _⟩ := hc
  refine ⟨ca, _, ccap, a, cap, by rw [List.length_map], fun i nm hn => ?_⟩
  rw [List.getElem?_map, Option.map_eq_some_iff] at hn
  obtain ⟨f, hf, rfl⟩ := hn
  obtain ⟨b, off, x, e, hb, hx, c⟩ := hat i f hf
  obtain ⟨a1, c1, a2, c2, rfl⟩ := hx.parts
  exact ⟨b, off, _, _, a1, _, c1, a2, _, c2, e, hb, c⟩

set_option maxHeartbeats 3200000 in
theorem refFind_any {w : World} {v : Value} {ns : List ByteArray} (s : ByteArray) (h : PgN w v ns) (hN : ns.length ≤ 1759218604390) :
    Calls Tryd.prog 19 #[v, .string s] w fun e w' => e = .returned (.tuple #[.int .i64 (fndN ns s), .bool (fndB ns s)]) ∧ Below w.heap.size w w' := by
  obtain ⟨ca, cn, ccap, a, cap, rfl, hat⟩ := h
  have HAT := hide hat
  clear hat
  obtain ⟨L, hL⟩ : ∃ L, Hid (ns.length = L) := ⟨_, rfl⟩
  obtain ⟨rN, hrN⟩ : ∃ x, Hid (fndN ns s = x) := ⟨_, rfl⟩
  obtain ⟨rB, hrB⟩ : ∃ x, Hid (fndB ns s = x) := ⟨_, rfl⟩
  rw [unhide hL] at hN ⊢
  rw [unhide hrN, unhide hrB]
  go_enter Tryd.func19, Tryd.ntmps19
  go_wp2_with fail
  go_loopg [6] L (fun gg t5 wr => ∃ (i : Nat), Hid (i + gg = L) ∧ t5 = .int .i64 (i : Int) ∧ Hid (Below (w.heap.size + 1) (w.alloc (.cells #[.slice ca cn ccap, .slice a L cap] 25)) wr) ∧ Hid (∀ (j : Nat) (f : ByteArray), j < i → ns[j]? = some f → (f.toList == s.toList) = false))
  case atStart => exact ⟨0, by unfold Hid; omega, rfl, Below.refl _ _, by unfold Hid; intro j f hj; omega⟩
  case round =>
    obtain ⟨i, hi, rfl, hB0, hM⟩ := hrel
    obtain ⟨kb0, kb1, hB', hbl⟩ := box2 (unhide hB0)
    have hB := hide hB'
    clear hB'
    by_cases hlt : i < L
    · have hil : i < ns.length := by rw [unhide hL]; exact hlt
      obtain ⟨f, hf⟩ : ∃ f, ns[i]? = some f := ⟨_, List.getElem?_eq_getElem hil⟩
      obtain ⟨b, off, pr, lc, a1, n1, c1, a2, n2, c2, rfl, hb, c⟩ := unhide HAT i f hf
      have k0 : wr.cell? ⟨b, off + i * 5, none⟩ = some (.string f) := ((unhide hB).cell (p := ⟨b, off + i * 5, none⟩) hb).trans (c 0 _ rfl)
      have k1 : wr.cell? ⟨b, off + i * 5 + 1, none⟩ = some (.int .i64 pr) := ((unhide hB).cell (p := ⟨b, off + i * 5 + 1, none⟩) hb).trans (c 1 _ rfl)
      have k2 : wr.cell? ⟨b, off + i * 5 + 2, none⟩ = some (.int .i64 lc) := ((unhide hB).cell (p := ⟨b, off + i * 5 + 2, none⟩) hb).trans (c 2 _ rfl)
      have k3 : wr.cell? ⟨b, off + i * 5 + 3, none⟩ = some (.slice a1 n1 c1) := ((unhide hB).cell (p := ⟨b, off + i * 5 + 3, none⟩) hb).trans (c 3 _ rfl)
      have k4 : wr.cell? ⟨b, off + i * 5 + 4, none⟩ = some (.slice a2 n2 c2) := ((unhide hB).cell (p := ⟨b, off + i * 5 + 4, none⟩) hb).trans (c 4 _ rfl)
      have hbr := Nat.lt_of_lt_of_le hb (unhide hB).size
      have i0 : (0 : Int) ≤ (i : Int) := by omega
      have i1 : (i : Int) < (L : Int) := by omega
      have HF := hide hf
      clear c hf
      by_cases he : (f.toList == s.toList) = true
      · have hh := fnd_hit (unhide HF) he (unhide hM)
        have hn : rN = (i : Int) := by rw [← unhide hrN]; unfold fndN; rw [hh]
        have hb2 : rB = true := by rw [← unhide hrB]; unfold fndB; rw [hh]; rfl
        clear hh
        subst hn hb2
        go_wp2_with fail
        go_ret2
        exact ⟨rfl, unhide hB⟩
      · have he2 : (f.toList == s.toList) = false := by simpa using he
        go_wp2_with fail
        go_roundg (gk - 1)
        case measure => have := unhide hi; omega
        case rel => exact ⟨i + 1, by have := unhide hi; unfold Hid; omega, by go_num, hB0, by
          unfold Hid
          intro j f' hj hf'
          by_cases q : j = i
          · subst q
            rw [unhide HF] at hf'
            cases hf'
            exact he2
          · exact unhide hM j f' (by omega) hf'⟩
    · have hiL : i = L := by have := unhide hi; omega
      subst hiL
      have hh : fnd ns s = none := fnd_miss (by rw [unhide hL]; exact unhide hM)
      have hn : rN = 0 := by rw [← unhide hrN]; unfold fndN; rw [hh]
      have hb2 : rB = false := by rw [← unhide hrB]; unfold fndB; rw [hh]; rfl
      clear hh
      subst hn hb2
      go_wp2_with fail
      go_ret2
      exact ⟨rfl, unhide hB⟩


set_option maxHeartbeats 3200000 in
theorem rname_any (s : ByteArray) (hs : s.size ≤ 9223372036854775807) (w : World) : Calls Tryd.prog 20 #[.string s] w fun e w' => e = .returned (.bool (spB s && decide (s.size ≤ 32))) ∧ w' = w := by
  obtain ⟨r, hr⟩ : ∃ r, Hid ((spB s && decide (s.size ≤ 32)) = r) := ⟨_, rfl⟩
  rw [unhide hr]
  have HL := hide letter_any
  go_enter Tryd.func20, Tryd.ntmps20
  go_wp2_with fail
  go_loopg [3] s.size (fun gg t3 wr => ∃ (i : Nat), Hid (i + gg = s.size) ∧ t3 = .int .i64 (i : Int) ∧ wr = w ∧ Hid (∀ j, (h : j < s.size) → j < i → letN (s[j]).toNat = true))
  case atStart => exact ⟨0, by unfold Hid; omega, rfl, rfl, by unfold Hid; intro j h hj; omega⟩
  case round =>
    obtain ⟨i, hi, rfl, rfl, hM⟩ := hrel
    by_cases hlt : i < s.size
    · have i0 : (0 : Int) ≤ (i : Int) := by omega
      have i1 : (i : Int) < (s.size : Int) := by omega
      have HLi := hide (unhide HL (s[i]) wr)
      go_wp2_with fail
      refine (unhide HLi).mono ?_
      rintro e w2 ⟨rfl, ew⟩
      have ew' := ew.symm
      subst ew'
      cases hl : letN (s[i]).toNat
      · have hsp : spB s = false := by
          have : allL s = false := decide_eq_false (fun q => by have := q i hlt; rw [hl] at this; cases this)
          simp [spB, this]
        obtain rfl : r = false := by rw [← unhide hr, hsp]; rfl
        go_wp2_with fail
        go_ret
        exact ⟨rfl, rfl⟩
      · go_wp2_with fail
        go_roundg (gk - 1)
        case measure => have := unhide hi; omega
        case rel => exact ⟨i + 1, by have := unhide hi; unfold Hid; omega, by go_num, rfl, by
          unfold Hid
          intro j h hj
          by_cases q : j = i
          · subst q; exact hl
          · exact unhide hM j h (by omega)⟩
    · have hiL : i = s.size := by have := unhide hi; omega
      have hal : allL s = true := decide_eq_true (fun j h => unhide hM j h (by omega))
      have j1 : decide ((i : Int) < (s.size : Int)) = false := decide_eq_false (by omega)
      by_cases h0 : s.size = 0
      · have hsp : spB s = false := by simp [spB, h0]
        obtain rfl : r = false := by rw [← unhide hr, hsp]; rfl
        have hi0 : i = 0 := by omega
        have hse : s = ByteArray.empty := by simpa using h0
        subst hi0
        subst hse
        clear hal hsp j1 h0 hlt hiL hi hM hr
        go_wp2_with fail
        go_ret
        exact ⟨rfl, rfl⟩
      · have hsp : spB s = true := by simp [spB, hal]; omega
        have q0 : decide ((0 : Int) < (s.size : Int)) = true := decide_eq_true (by omega)
        by_cases h32 : s.size ≤ 32
        · obtain rfl : r = true := by rw [← unhide hr, hsp, decide_eq_true h32]; rfl
          have q1 : decide ((s.size : Int) ≤ 32) = true := decide_eq_true (by omega)
          have q2 : 0 < s.size := by omega
          have q3 : ¬ s = ByteArray.empty := fun e => by rw [e] at q2; simp at q2
          clear hal hiL hsp
          go_wp2_with fail
          go_ret
          exact ⟨rfl, rfl⟩
        · obtain rfl : r = false := by rw [← unhide hr, hsp, decide_eq_false h32]; rfl
          have q1 : decide ((s.size : Int) ≤ 32) = false := decide_eq_false (by omega)
          have q2 : 0 < s.size := by omega
          have q3 : ¬ s = ByteArray.empty := fun e => by rw [e] at q2; simp at q2
          clear hal hiL hsp
          go_wp2_with fail
          go_ret
          exact ⟨rfl, rfl⟩
theorem badN_no {n : Int} (h : wrap64 (n * 4096) = 0) : badN n = false := by
  have h1 : n % 4503599627370496 = 0 := by unfold wrap64 at h; omega
  unfold badN isN
  rw [decide_eq_false, Bool.false_and]
  unfold uN
  omega
end
end Go.Proofs.YtfaafamdjcojlaaDoor
