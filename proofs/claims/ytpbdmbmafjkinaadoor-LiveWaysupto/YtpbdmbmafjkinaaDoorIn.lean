/-
  Instructions in memory of one's own.
-/
import Derived.Test.YtpbdmbmafjkinaaDoorSh
import Derived.Test.YtpbdmbmafjkinaaDoorInD
namespace Go.Proofs.YtpbdmbmafjkinaaDoor
open Go.RowKit
set_option linter.unusedVariables false
set_option linter.unusedSimpArgs false
/-- Blocks may be told more widely. -/
theorem Mv.wide {U R : Type} {P : (Nat → Prop) → World → U → R → Prop} (hP : Mv P) {D D' : Nat → Prop} {w : World} {u : U} {r : R} (h : P D w u r) (hd : ∀ k, k < w.heap.size → D k → D' k) : P D' w u r :=
  hP D D' (fun _ => False) w w u r h (Fr.refl _ w) (fun k hk e => ⟨fun q => q, hd k hk e⟩)
/-- One more instruction, out of what the callees answer. -/
theorem CpS.inT {w0 w1 w2 : World} {u : RIn} {rs0 rs : List ShR} {av ev : Value} {x : InR} (ha : Gx w0 2 enO u.args av w1) (h : CpS w1 u.ex rs0 ev u.ex.length rs w2) (hx : x.op = u.op ∧ x.code = u.code ∧ x.dst = u.dst ∧ x.n = u.n ∧ x.pc = u.pc ∧ x.need = u.need) (e1 : x.av = av) (e2 : x.ev = ev) :
    InT w2 u (x, rs) ∧ ∀ k, blT (x, rs) k → w0.heap.size ≤ k ∧ k < w2.heap.size := by
  obtain ⟨rop, rcode, rdst, rav, rn, rpc, rneed, rev⟩ := x
  simp only at hx e1 e2
  subst e1 e2
  have hb := h.bl
  have ha0 := ha.2.2
  have ha1 : ∀ k, rav.ownBlock = some k → k < w1.heap.size := fun k hk => ha.1.lt k hk
  have he0 := h.rb
  have he1 : ∀ k, rev.ownBlock = some k → k < w2.heap.size := fun k hk => h.row.lt k hk
  have hs0 := ha.2.1.size
  have hs1 := hb.size
  have hl := h.len
  have hsn : ∀ (r : ShR) (k : Nat), r ∈ rs → r.v.ownBlock = some k → w1.heap.size ≤ k ∧ k < w2.heap.size ∧ rev.ownBlock ≠ some k := fun r k hr hk => by
    obtain ⟨j, hj, rfl⟩ := List.getElem_of_mem hr
    exact h.nb j _ k (by omega) (List.getElem?_eq_getElem hj) hk
  refine ⟨⟨hx, ha.1.fr (Fr.of_below (S := fun _ => False) hb) (fun _ _ e => e), hl, h.row, fun j s r hs hr => h.new j s r (List.getElem?_eq_some_iff.1 hs).1 hs hr, fun k hk q => ?_, fun r k hr hk => ⟨fun q => ?_, (hsn r k hr hk).2.2⟩, fun i j r q k hij hr hq hk => ?_⟩, fun k hk => ?_⟩
  · have := ha1 k hk
    have := he0 k q
    omega
  · have := (hsn r k hr hk).1
    have := ha1 k q
    omega
  · have hi : i < rs.length := (List.getElem?_eq_some_iff.1 hr).1
    have hj : j < rs.length := (List.getElem?_eq_some_iff.1 hq).1
    exact h.ap i j r q k (by omega) (by omega) hij hr hq hk
  · rcases hk with q | q | ⟨r, hr, q⟩
    · have := ha0 k q; have := ha1 k q; omega
    · have := he0 k q; have := he1 k q; omega
    · have := hsn r k hr q; omega
section
variable {w wr w1 w2 : World} {b k : Nat} {l : List RIn} {lv : Value} {ts : List TI}
end
end Go.Proofs.YtpbdmbmafjkinaaDoor
