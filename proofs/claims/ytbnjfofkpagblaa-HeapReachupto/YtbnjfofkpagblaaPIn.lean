/-
  A program that came in.
-/
import Derived.Test.YtbnjfofkpagblaaRows
import Derived.Test.YtbnjfofkpagblaaPRow
import Derived.ProofKit
import Derived.OpenShut
import Derived.ShutString
import Derived.ChangeOld
import Derived.SizedLaws
import Derived.SliceStrings
import Derived.Lib.SmallJoins
namespace Go.Proofs.Ytbnjfofkpagblaa.into
open Go.ChangeShapes Go.WideShapes Go.ChangeAt Go.RowKit Go.Joins
set_option linter.unusedVariables false

theorem own : ownKnob Try.prog.godebug = none := by kernel_rfl
theorem laidOut : laidOutB Try.prog = true := by kernel_rfl
theorem cells3 : Try.prog.cellsOf 3 = 1 := by kernel_rfl
theorem cells2 : Try.prog.cellsOf 2 = 1 := by kernel_rfl
theorem spot_none {w : World} {a : Addr} {v : Value} (h : w.cell? a = some v) : a.spot = none := by
  unfold World.cell? at h
  cases e : a.spot with
  | none => rfl
  | some s => simp [e] at h <;> (split at h <;> simp at h)
theorem add_zero' (a : Addr) : a.add 0 = a := by unfold Addr.add; rw [if_pos rfl]
theorem bulk_one {H : Type} (d : DataW H) : 1 ≤ Rows.uptoBulk d := by
  unfold Rows.uptoBulk
  split <;> omega
theorem bulk_len {H : Type} : ∀ l : List (DataW H), l.length ≤ Rows.uptoBulkAll l
  | [] => Nat.zero_le _
  | d :: r => by
    have h1 := bulk_one d
    have h2 := bulk_len r
    rw [Rows.uptoBulkAll, List.length_cons]
    omega
theorem bulk_part {H : Type} : ∀ {l : List (DataW H)} {d : DataW H}, d ∈ l → Rows.uptoBulk d ≤ Rows.uptoBulkAll l
  | d0 :: l, d, h => by
    rw [Rows.uptoBulkAll]
    rcases List.mem_cons.1 h with rfl | h
    · omega
    · have := bulk_part h; omega
/-- A list of things, out of its one cell. -/
theorem rows_cell {H : Type} {enc : TypeId × Value → H} {W : World} {n : Nat} {c : Value} {y : DataW H × List MemPlace} {T : Type} {en : T → List Value} {sz : Nat} (hz : ∀ x, (en x).length = sz) (hpos : 0 < sz) (t0 : T) {t te : TypeId} (hu : Try.prog.underlying t = some (.slice te)) (hcl : Try.prog.cellsOf te = sz) (G : T → DataW H → Prop)
    (hel : ∀ n cs y, cs.length = sz → DataW.trod enc Try.prog W 0 (fun _ => true) true n te cs = some y → ∃ x : T, cs = en x ∧ G x y.1)
    (hy : DataW.trod enc Try.prog W 0 (fun _ => true) true n t [c] = some y) :
    ∃ (l : List T) (ds rs : List (DataW H)), Rx W sz c l.length (flt en l) ∧ l.length = ds.length ∧ (y.1 = .slice ds rs ∨ (ds = [] ∧ y.1 = .nil)) ∧ ∀ (i : Nat) (x : T), l[i]? = some x → ∃ d, ds[i]? = some d ∧ G x d := by
  rcases DataW.trod_slice hu hy with ⟨hcs, hd⟩ | ⟨a, len, cap, elems, rest, m, _, hcs, hd, _, hl, hm, hlen, hel2, _, _⟩
  · simp at hcs
    subst hcs
    exact ⟨[], [], [], by simpa [flt] using Rx.nil W sz, rfl, .inr ⟨rfl, by rw [hd]⟩, fun i x hx => by simp at hx⟩
  · simp at hcs
    subst hcs
    rw [hcl] at hel2
    have hd1 : y.1 = _ := congrArg Prod.fst hd
    have hex : ∀ i, ∃ x : T, i < len → (∃ d, (elems.map (·.1))[i]? = some d ∧ G x d) ∧ W.cells? 0 (a.add (i * sz)) sz = some (en x) := fun i => by
      by_cases hi : i < len
      · have hi' : i < elems.length := by omega
        have hb := (hel2 i hi).trans (List.getElem?_eq_getElem hi')
        rw [Option.bind_eq_some_iff] at hb
        obtain ⟨cs, hcs, hyy⟩ := hb
        obtain ⟨_, hl2, _⟩ := World.cells?_some hcs
        obtain ⟨x, ex, hg⟩ := hel m cs _ hl2 hyy
        exact ⟨x, fun _ => ⟨⟨_, by rw [List.getElem?_map, List.getElem?_eq_getElem hi']; rfl, hg⟩, by rw [← ex]; exact hcs⟩⟩
      · exact ⟨t0, fun h => absurd h hi⟩
    obtain ⟨f, hf⟩ := Classical.axiomOfChoice hex
    have hll : ((List.range len).map f).length = len := by simp
    refine ⟨(List.range len).map f, elems.map (·.1), rest.map (·.1), ⟨flt_length hz _, some a, cap, by rw [hll], by rw [hll]; exact hl, hm, fun h0 => ?_⟩, by simp [hlen], .inl hd1, fun i x hx => ?_⟩
    · rw [hll] at h0 ⊢
      obtain ⟨_, hc0⟩ := hf 0 h0
      obtain ⟨_, hl0, hcell0⟩ := World.cells?_some hc0
      have z0 := hcell0 0 hpos
      rw [Nat.zero_mul, add_zero', add_zero'] at z0
      obtain ⟨v0, hv0⟩ : ∃ v, (en (f 0))[0]? = some v := ⟨_, List.getElem?_eq_getElem (by rw [hz]; exact hpos)⟩
      have z1 : W.cell? a = some v0 := by rw [← hv0]; exact z0
      have hs := spot_none z1
      obtain ⟨b, off, spot⟩ := a
      simp at hs
      subst hs
      refine ⟨b, off, rfl, World.block_lt_of_cell? _ _ z1, fun j hj => ?_⟩
      have hq : j / sz < len := Nat.div_lt_of_lt_mul (by rw [Nat.mul_comm]; exact hj)
      have hr : j % sz < sz := Nat.mod_lt _ hpos
      have ej : j = j / sz * sz + j % sz := by rw [Nat.mul_comm]; exact (Nat.div_add_mod j sz).symm
      obtain ⟨_, hcj⟩ := hf (j / sz) hq
      obtain ⟨_, hlj, hcellj⟩ := World.cells?_some hcj
      have hc := hcellj (j % sz) hr
      rw [Go.WideShapes.add_plain, Go.WideShapes.add_plain] at hc
      rw [ej, flt_at hz (p := f (j / sz)) (by simp [hq]) (j % sz) hr, ← Nat.add_assoc]
      exact hc
    · have hi : i < len := by
        have := (List.getElem?_eq_some_iff.1 hx).1
        simpa using this
      have e : x = f i := by simp [hi] at hx; exact hx.symm
      rw [e]
      exact (hf i hi).1
def I64' (k : Int) : Prop := -9223372036854775808 ≤ k ∧ k < 9223372036854775808
def okI (p : Int × Int) : Prop := I64' p.1 ∧ I64' p.2
theorem i64_of {k : Int} (h : (Lit.int .i64 k).wf = true) : I64' k := by
  obtain ⟨l, u⟩ := bounds_i64 h
  exact ⟨by omega, by omega⟩
section
variable {H : Type} {enc : TypeId × Value → H} {W : World}
end
end Go.Proofs.Ytbnjfofkpagblaa.into
