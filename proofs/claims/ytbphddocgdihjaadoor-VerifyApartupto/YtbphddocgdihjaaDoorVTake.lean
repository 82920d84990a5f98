/-
  A list that fits everywhere is what is found.
-/
import Derived.Test.YtbphddocgdihjaaDoorVFall
namespace Go.Proofs.YtbphddocgdihjaaDoor
open Go.RowKit
set_option linter.unusedVariables false
set_option linter.unusedSimpArgs false
theorem flo_le (hs : List Hd) (p : Int) (c : Int) : ∀ (z : Int), z ≤ c → (∀ k ∈ hs, k.frm ≤ p → p < k.to → k.height ≤ c) → hs.foldl (fun a h => if h.frm ≤ p ∧ p < h.to then max a h.height else a) z ≤ c := by
  induction hs with
  | nil => intro z hz _; exact hz
  | cons x r ih =>
    intro z hz h
    rw [List.foldl_cons]
    refine ih _ ?_ (fun k hk => h k (List.mem_cons_of_mem _ hk))
    split
    · rename_i hc
      have := h x (by simp) hc.1 hc.2
      omega
    · exact hz
/-- What is met lies on a list that fits everywhere. -/
theorem Mt.on {f : Fc} (hf : OkF f) {l : List Int} (h0 : l[0]? = some 0) (hfit : ∀ p, p < f.code.length → ∃ op a z, FitO f l p op a z) {s : Spot} (hs : Mt f s) : l[s.1.toNat]? = some s.2 := by
  induction hs with
  | zero => exact h0
  | @next p ht op a s hm hi hn ih =>
    have hp : p < f.code.length := (List.getElem?_eq_some_iff.1 hi).1
    obtain ⟨op', a', z, F⟩ := hfit p hp
    have e1 := F.hi
    rw [hi] at e1
    cases e1
    simp only [Int.toNat_natCast] at ih
    have e2 := F.hh
    rw [ih] at e2
    cases e2
    unfold nx at hn
    split at hn
    · simp at hn
    · rw [List.mem_append] at hn
      rcases hn with hn | hn
      · split at hn
        · rename_i hjm
          simp at hn
          subst hn
          exact (F.nx a (by unfold nxl; rw [if_pos hjm]; simp)).2.2
        · simp at hn
      · split at hn
        · rename_i hc
          simp at hn
          subst hn
          refine (F.nx ((p : Int) + 1) ?_).2.2
          unfold nxl
          rw [if_pos (c := _ ∧ _) ⟨by simpa using hc.1, hc.2⟩]
          simp
        · simp at hn
  | @hand p ht k hm hk hh ih =>
    have hbd := hm.bd hf
    simp only at hbd
    obtain ⟨op', a', z, F⟩ := hfit p (by omega)
    unfold hol at hh
    simp at hh
    exact (F.hd k hk hh.1 hh.2).2.2.2
/-- A list that fits everywhere, with a way to each place, is what is found. -/
theorem FnR.of_fit {f : Fc} (hf : OkF f) {l : List Int} (hl : l.length = f.code.length) (h0 : l[0]? = some 0) (hfit : ∀ p, p < f.code.length → ∃ op a z, FitO f l p op a z) {op a : Int} (hi : f.code[f.code.length - 1]? = some (op, a)) (he : enB op = true)
    (hway : ∀ p, p < f.code.length → ∃ ht, Mt f ((p : Int), ht)) : FnR f (some l) 0 0 := by
  have on : ∀ {p : Nat} {ht : Int}, Mt f ((p : Int), ht) → l[p]? = some ht := fun hm => by
    have := hm.on hf h0 hfit
    simpa using this
  refine .inr (.inr ⟨rfl, rfl, fun q hq => ?_, fun q hq => ?_, l, rfl, hl, fun p ht => ⟨fun e => ?_, on⟩⟩)
  · obtain ⟨ht, op', a', hm, hi', hb⟩ := hq
    obtain ⟨op2, a2, z, F⟩ := hfit q (List.getElem?_eq_some_iff.1 hi').1
    have e1 := F.hi
    rw [hi'] at e1
    cases e1
    have e2 := F.hh
    rw [on hm] at e2
    cases e2
    rcases hb with ⟨h2, hm2, hne⟩ | hb | hb
    · have := on hm2
      rw [on hm] at this
      exact hne (Option.some.inj this).symm
    · have ht' := F.tk
      have := flo_le f.hs (q : Int) (ht - tkI op' a') 0 (by omega) (fun k hk ha hb' => (F.hd k hk ha hb').1)
      unfold flo at hb
      omega
    · have := F.pt
      omega
  · obtain ⟨op', a', hi', hu⟩ := hq
    rcases hu with hu | ⟨hu, he'⟩
    · obtain ⟨ht, hm⟩ := hway q (List.getElem?_eq_some_iff.1 hi').1
      exact hu ht hm
    · have e : q = f.code.length - 1 := by omega
      rw [e, hi] at hi'
      cases hi'
      rw [he] at he'
      cases he'
  · have hp : p < f.code.length := by rw [← hl]; exact (List.getElem?_eq_some_iff.1 e).1
    obtain ⟨h2, hm⟩ := hway p hp
    have := on hm
    rw [e] at this
    cases this
    exact hm
end Go.Proofs.YtbphddocgdihjaaDoor
