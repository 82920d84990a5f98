/-
  Find, of both sides.
-/
import Derived.Test.YtepfhchbmpfaoaaPRow
namespace Go.Proofs.Ytepfhchbmpfaoaa
open Go.RowKit
set_option linter.unusedVariables false
/-- The number of the function of a name. -/
def fnd (fs : List ByteArray) (s : ByteArray) : Option Nat := fs.findIdx? (fun f => f.toList == s.toList)
def fndN (fs : List ByteArray) (s : ByteArray) : Int := match fnd fs s with | some k => (k : Int) | none => 0
def fndB (fs : List ByteArray) (s : ByteArray) : Bool := (fnd fs s).isSome
theorem fnd_hit {fs : List ByteArray} {s : ByteArray} {i : Nat} {f : ByteArray} (h : fs[i]? = some f) (e : (f.toList == s.toList) = true) (hm : ∀ (j : Nat) (f : ByteArray), j < i → fs[j]? = some f → (f.toList == s.toList) = false) : fnd fs s = some i := by
  unfold fnd
  rw [List.findIdx?_eq_some_iff_getElem]
  obtain ⟨hi, hf⟩ := List.getElem?_eq_some_iff.1 h
  refine ⟨hi, by rw [hf]; exact e, fun j hj => ?_⟩
  have := hm j _ hj (List.getElem?_eq_getElem (by omega))
  rw [this]; simp
theorem fnd_miss {fs : List ByteArray} {s : ByteArray} (hm : ∀ (j : Nat) (f : ByteArray), j < fs.length → fs[j]? = some f → (f.toList == s.toList) = false) : fnd fs s = none := by
  unfold fnd
  rw [List.findIdx?_eq_none_iff]
  intro f hf
  obtain ⟨j, hj, e⟩ := List.getElem_of_mem hf
  have := hm j f hj (by rw [← e]; exact List.getElem?_eq_getElem hj)
  rw [this]
theorem box2 {w wr : World} {u v : Value} {e : TypeId} (h : Below (w.heap.size + 1) (w.alloc (.cells #[u, v] e)) wr) : wr.cell? ⟨w.heap.size, 0, none⟩ = some u ∧ wr.cell? ⟨w.heap.size, 1, none⟩ = some v ∧ Below w.heap.size w wr ∧ w.heap.size < wr.heap.size := by
  have hs := h.size
  simp only [World.size_alloc] at hs
  have n0 := new_cells w #[u, v] e 0 u rfl
  have n1 := new_cells w #[u, v] e 1 v rfl
  rw [Go.WideShapes.add_plain] at n0 n1
  exact ⟨(h.cell (p := ⟨w.heap.size, 0, none⟩) (Nat.lt_succ_self _)).trans n0, (h.cell (p := ⟨w.heap.size, 1, none⟩) (Nat.lt_succ_self _)).trans n1, ((Below.refl _ w).alloc (Nat.le_refl _) _).trans (h.mono (Nat.le_succ _)), by omega⟩
theorem FnV.parts {w : World} {f : Fc} {x : Fv} (h : FnV w f x) : ∃ a1 c1 a2 c2, x = ⟨f.name, f.params, f.locals, .slice a1 f.code.length c1, .slice a2 f.hs.length c2⟩ := by
  obtain ⟨e1, e2, e3, ⟨_, a1, c1, e4, _⟩, ⟨_, a2, c2, e5, _⟩⟩ := h
  obtain ⟨x1, x2, x3, x4, x5⟩ := x
  simp only at e1 e2 e3 e4 e5
  subst e1 e2 e3 e4 e5
  exact ⟨a1, c1, a2, c2, rfl⟩
theorem Rfs.at {w : World} {v : Value} {fs : List Fc} (h : Rfs w v fs) : ∃ a cap, v = .slice a fs.length cap ∧ fs.length ≤ cap ∧ cap ≤ maxLen ∧ ∀ (i : Nat) (f : Fc), fs[i]? = some f → ∃ b off x, a = some ⟨b, off, none⟩ ∧ b < w.heap.size ∧ FnV w f x ∧ ∀ (j : Nat) u, (enF x)[j]? = some u → w.cell? ⟨b, off + i * 5 + j, none⟩ = some u := by
  obtain ⟨xs, h1, h2, h3⟩ := h
  have h4 := fun i p (hp : xs[i]? = some p) => h2.elem zF hp
  obtain ⟨_, a, cap, e, hl, hm, _⟩ := h2
  refine ⟨a, cap, by rw [e, h1], by omega, hm, fun i f hf => ?_⟩
  have hi := (List.getElem?_eq_some_iff.1 hf).1
  have hx : xs[i]? = some (xs[i]'(by omega)) := List.getElem?_eq_getElem (by omega)
  obtain ⟨b, off, cap', e', _, _, hb, hc⟩ := h4 i _ hx
  rw [e] at e'
  cases e'
  exact ⟨b, off, _, rfl, hb, h3 i f _ hf hx, hc⟩
/-- A program of whose functions the names are known. -/
def PgN (w : World) (v : Value) (ns : List ByteArray) : Prop :=
  ∃ ca cn ccap a cap, v = .agg #[.slice ca cn ccap, .slice a ns.length cap] ∧ ∀ (i : Nat) (nm : ByteArray), ns[i]? = some nm → ∃ b off pr lc a1 n1 c1 a2 n2 c2, a = some ⟨b, off, none⟩ ∧ b < w.heap.size ∧ ∀ (j : Nat) u, (enF ⟨nm, pr, lc, .slice a1 n1 c1, .slice a2 n2 c2⟩)[j]? = some u → w.cell? ⟨b, off + i * 5 + j, none⟩ = some u
theorem PgV.pgn {w : World} {v : Value} {p : Pg} (h : PgV w v p) : PgN w v (p.funcs.map (·.name)) := by
  obtain ⟨cv, fv, rfl, hc, hf⟩ := h
  obtain ⟨a, cap, rfl, _, _, hat⟩ := hf.at
  obtain ⟨_, ca, ccap, rfl, _, _, _⟩ := hc
  refine ⟨ca, _, ccap, a, cap, by rw [List.length_map], fun i nm hn => ?_⟩
  rw [List.getElem?_map, Option.map_eq_some_iff] at hn
  obtain ⟨f, hf, rfl⟩ := hn
  obtain ⟨b, off, x, e, hb, hx, c⟩ := hat i f hf
  obtain ⟨a1, c1, a2, c2, rfl⟩ := hx.parts
  exact ⟨b, off, _, _, a1, _, c1, a2, _, c2, e, hb, c⟩

set_option maxRecDepth 100000 in
set_option maxHeartbeats 3200000 in
theorem refFind_any {w : World} {v : Value} {ns : List ByteArray} (s : ByteArray) (h : PgN w v ns) (hN : ns.length ≤ 1759218604390) :
    Calls Try.prog 5 #[v, .string s] w fun e w' => e = .returned (.tuple #[.int .i64 (fndN ns s), .bool (fndB ns s)]) ∧ Below w.heap.size w w' := by
  obtain ⟨ca, cn, ccap, a, cap, rfl, hat⟩ := h
  have HAT := hide hat
  clear hat
  obtain ⟨L, hL⟩ : ∃ L, Hid (ns.length = L) := ⟨_, rfl⟩
  obtain ⟨rN, hrN⟩ : ∃ x, Hid (fndN ns s = x) := ⟨_, rfl⟩
  obtain ⟨rB, hrB⟩ : ∃ x, Hid (fndB ns s = x) := ⟨_, rfl⟩
  rw [unhide hL] at hN ⊢
  rw [unhide hrN, unhide hrB]
  go_enter Try.func5, Try.ntmps5
  go_wp2_with fail
  go_loopg [6] L (fun gg t5 wr => ∃ (i : Nat), Hid (i + gg = L) ∧ t5 = .int .i64 (i : Int) ∧ Hid (Below (w.heap.size + 1) (w.alloc (.cells #[.slice ca cn ccap, .slice a L cap] 25)) wr) ∧ Hid (∀ (j : Nat) (f : ByteArray), j < i → ns[j]? = some f → (f.toList == s.toList) = false))
  case atStart => exact ⟨0, by unfold Hid; omega, rfl, Below.refl _ _, by unfold Hid; intro j f hj; omega⟩
  case round =>
    obtain ⟨i, hi, rfl, hB0, hM⟩ := hrel
    obtain ⟨kb0, kb1, hB', hbl⟩ := box2 (unhide hB0)
    have hB := hide hB'
    clear hB'
    by_cases hlt : i < L
    · have hil : i < ns.length := by rw [unhide hL]; exact hlt
      obtain ⟨f, hf⟩ : ∃ f, ns[i]? = some f := ⟨_, List.getElem?_eq_getElem hil⟩
      obtain ⟨b, off, pr, lc, a1, n1, c1, a2, n2, c2, rfl, hb, c⟩ := unhide HAT i f hf
      have k0 : wr.cell? ⟨b, off + i * 5, none⟩ = some (.string f) := ((unhide hB).cell (p := ⟨b, off + i * 5, none⟩) hb).trans (c 0 _ rfl)
      have k1 : wr.cell? ⟨b, off + i * 5 + 1, none⟩ = some (.int .i64 pr) := ((unhide hB).cell (p := ⟨b, off + i * 5 + 1, none⟩) hb).trans (c 1 _ rfl)
      have k2 : wr.cell? ⟨b, off + i * 5 + 2, none⟩ = some (.int .i64 lc) := ((unhide hB).cell (p := ⟨b, off + i * 5 + 2, none⟩) hb).trans (c 2 _ rfl)
      have k3 : wr.cell? ⟨b, off + i * 5 + 3, none⟩ = some (.slice a1 n1 c1) := ((unhide hB).cell (p := ⟨b, off + i * 5 + 3, none⟩) hb).trans (c 3 _ rfl)
      have k4 : wr.cell? ⟨b, off + i * 5 + 4, none⟩ = some (.slice a2 n2 c2) := ((unhide hB).cell (p := ⟨b, off + i * 5 + 4, none⟩) hb).trans (c 4 _ rfl)
      have hbr := Nat.lt_of_lt_of_le hb (unhide hB).size
      have i0 : (0 : Int) ≤ (i : Int) := by omega
      have i1 : (i : Int) < (L : Int) := by omega
      have HF := hide hf
      clear c hf
      by_cases he : (f.toList == s.toList) = true
      · have hh := fnd_hit (unhide HF) he (unhide hM)
        have hn : rN = (i : Int) := by rw [← unhide hrN]; unfold fndN; rw [hh]
        have hb2 : rB = true := by rw [← unhide hrB]; unfold fndB; rw [hh]; rfl
        clear hh
        subst hn hb2
        go_wp2_with fail
        go_ret2
        exact ⟨rfl, unhide hB⟩
      · have he2 : (f.toList == s.toList) = false := by simpa using he
        go_wp2_with fail
        go_roundg (gk - 1)
        case measure => have := unhide hi; omega
        case rel => exact ⟨i + 1, by have := unhide hi; unfold Hid; omega, by go_num, hB0, by
          unfold Hid
          intro j f' hj hf'
          by_cases q : j = i
          · subst q
            rw [unhide HF] at hf'
            cases hf'
            exact he2
          · exact unhide hM j f' (by omega) hf'⟩
    · have hiL : i = L := by have := unhide hi; omega
      subst hiL
      have hh : fnd ns s = none := fnd_miss (by rw [unhide hL]; exact unhide hM)
      have hn : rN = 0 := by rw [← unhide hrN]; unfold fndN; rw [hh]
      have hb2 : rB = false := by rw [← unhide hrB]; unfold fndB; rw [hh]; rfl
      clear hh
      subst hn hb2
      go_wp2_with fail
      go_ret2
      exact ⟨rfl, unhide hB⟩

set_option maxRecDepth 100000 in
set_option maxHeartbeats 3200000 in
theorem find_any {w : World} {v : Value} {ns : List ByteArray} (s : ByteArray) (h : PgN w v ns) (hN : ns.length ≤ 1759218604390) :
    Calls Try.prog 6 #[v, .string s] w fun e w' => e = .returned (.tuple #[.int .i64 (fndN ns s), .bool (fndB ns s)]) ∧ Below w.heap.size w w' := by
  obtain ⟨ca, cn, ccap, a, cap, rfl, hat⟩ := h
  have HAT := hide hat
  clear hat
  obtain ⟨L, hL⟩ : ∃ L, Hid (ns.length = L) := ⟨_, rfl⟩
  obtain ⟨rN, hrN⟩ : ∃ x, Hid (fndN ns s = x) := ⟨_, rfl⟩
  obtain ⟨rB, hrB⟩ : ∃ x, Hid (fndB ns s = x) := ⟨_, rfl⟩
  rw [unhide hL] at hN ⊢
  rw [unhide hrN, unhide hrB]
  go_enter Try.func6, Try.ntmps6
  go_wp2_with fail
  go_loopg [11] L (fun gg t5 wr => ∃ (i : Nat), Hid (i + gg = L) ∧ t5 = .int .i64 (i : Int) ∧ Hid (Below (w.heap.size + 1) (w.alloc (.cells #[.slice ca cn ccap, .slice a L cap] 25)) wr) ∧ Hid (∀ (j : Nat) (f : ByteArray), j < i → ns[j]? = some f → (f.toList == s.toList) = false))
  case atStart => exact ⟨0, by unfold Hid; omega, rfl, Below.refl _ _, by unfold Hid; intro j f hj; omega⟩
  case round =>
    obtain ⟨i, hi, rfl, hB0, hM⟩ := hrel
    obtain ⟨kb0, kb1, hB', hbl⟩ := box2 (unhide hB0)
    have hB := hide hB'
    clear hB'
    by_cases hlt : i < L
    · have hil : i < ns.length := by rw [unhide hL]; exact hlt
      obtain ⟨f, hf⟩ : ∃ f, ns[i]? = some f := ⟨_, List.getElem?_eq_getElem hil⟩
      obtain ⟨b, off, pr, lc, a1, n1, c1, a2, n2, c2, rfl, hb, c⟩ := unhide HAT i f hf
      have k0 : wr.cell? ⟨b, off + i * 5, none⟩ = some (.string f) := ((unhide hB).cell (p := ⟨b, off + i * 5, none⟩) hb).trans (c 0 _ rfl)
      have k1 : wr.cell? ⟨b, off + i * 5 + 1, none⟩ = some (.int .i64 pr) := ((unhide hB).cell (p := ⟨b, off + i * 5 + 1, none⟩) hb).trans (c 1 _ rfl)
      have k2 : wr.cell? ⟨b, off + i * 5 + 2, none⟩ = some (.int .i64 lc) := ((unhide hB).cell (p := ⟨b, off + i * 5 + 2, none⟩) hb).trans (c 2 _ rfl)
      have k3 : wr.cell? ⟨b, off + i * 5 + 3, none⟩ = some (.slice a1 n1 c1) := ((unhide hB).cell (p := ⟨b, off + i * 5 + 3, none⟩) hb).trans (c 3 _ rfl)
      have k4 : wr.cell? ⟨b, off + i * 5 + 4, none⟩ = some (.slice a2 n2 c2) := ((unhide hB).cell (p := ⟨b, off + i * 5 + 4, none⟩) hb).trans (c 4 _ rfl)
      have hbr := Nat.lt_of_lt_of_le hb (unhide hB).size
      have i0 : (0 : Int) ≤ (i : Int) := by omega
      have i1 : (i : Int) < (L : Int) := by omega
      have HF := hide hf
      clear c hf
      by_cases he : (f.toList == s.toList) = true
      · have hh := fnd_hit (unhide HF) he (unhide hM)
        have hn : rN = (i : Int) := by rw [← unhide hrN]; unfold fndN; rw [hh]
        have hb2 : rB = true := by rw [← unhide hrB]; unfold fndB; rw [hh]; rfl
        clear hh
        subst hn hb2
        go_wp2_with fail
        go_ret2
        exact ⟨rfl, (unhide hB).trans (((Below.refl _ wr).alloc (Nat.le_refl _) _).mono (unhide hB).size)⟩
      · have he2 : (f.toList == s.toList) = false := by simpa using he
        go_wp2_with fail
        go_roundg (gk - 1)
        case measure => have := unhide hi; omega
        case rel => exact ⟨i + 1, by have := unhide hi; unfold Hid; omega, by go_num, (unhide hB0).trans (((Below.refl _ wr).alloc (Nat.le_refl _) _).mono hbl), by
          unfold Hid
          intro j f' hj hf'
          by_cases q : j = i
          · subst q
            rw [unhide HF] at hf'
            cases hf'
            exact he2
          · exact unhide hM j f' (by omega) hf'⟩
    · have hiL : i = L := by have := unhide hi; omega
      subst hiL
      have hh : fnd ns s = none := fnd_miss (by rw [unhide hL]; exact unhide hM)
      have hn : rN = 0 := by rw [← unhide hrN]; unfold fndN; rw [hh]
      have hb2 : rB = false := by rw [← unhide hrB]; unfold fndB; rw [hh]; rfl
      clear hh
      subst hn hb2
      go_wp2_with fail
      go_ret2
      exact ⟨rfl, unhide hB⟩
end Go.Proofs.Ytepfhchbmpfaoaa
