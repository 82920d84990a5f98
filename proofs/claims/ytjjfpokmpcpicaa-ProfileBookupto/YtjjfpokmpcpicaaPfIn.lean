/-
  A profile that came in.
-/
import Derived.Test.YtjjfpokmpcpicaaRows
import Derived.Test.YtjjfpokmpcpicaaPfT
import Derived.ProofKit
import Derived.OpenShut
import Derived.ShutString
import Derived.ChangeOld
import Derived.SizedLaws
import Derived.SliceStrings
import Derived.Lib.SmallJoins
namespace Go.Proofs.Ytjjfpokmpcpicaa.into
open Go.ChangeShapes Go.WideShapes Go.ChangeAt Go.RowKit Go.Joins
set_option linter.unusedVariables false
theorem own : ownKnob Try.prog.godebug = none := by kernel_rfl
theorem laidOut : laidOutB Try.prog = true := by kernel_rfl
theorem cells3 : Try.prog.cellsOf 3 = 1 := by kernel_rfl
theorem cells2 : Try.prog.cellsOf 2 = 1 := by kernel_rfl
theorem cellsU : Try.prog.cellsOf 54 = 1 := by kernel_rfl
theorem cellsS : Try.prog.cellsOf 56 = 4 := by kernel_rfl
theorem cellsR : Try.prog.cellsOf 53 = 1 := by kernel_rfl
theorem cellsF : Try.prog.cellsOf 26 = 1 := by kernel_rfl
theorem cellsP : Try.prog.cellsOf 28 = 1 := by kernel_rfl
theorem bytesS : Try.prog.bytesOf 56 = 24 := by kernel_rfl
theorem bytesR : Try.prog.bytesOf 53 = 24 := by kernel_rfl
theorem spot_none {w : World} {a : Addr} {v : Value} (h : w.cell? a = some v) : a.spot = none := by
  unfold World.cell? at h
  cases e : a.spot with
  | none => rfl
  | some s => simp [e] at h <;> (split at h <;> simp at h)
theorem add_zero' (a : Addr) : a.add 0 = a := by unfold Addr.add; rw [if_pos rfl]
theorem bulk_one {H : Type} (d : DataW H) : 1 ≤ Rows.uptoBulk d := by
  unfold Rows.uptoBulk
  split <;> omega
theorem bulk_len {H : Type} : ∀ l : List (DataW H), l.length ≤ Rows.uptoBulkAll l
  | [] => Nat.zero_le _
  | d :: r => by
    have h1 := bulk_one d
    have h2 := bulk_len r
    rw [Rows.uptoBulkAll, List.length_cons]
    omega
theorem bulk_part {H : Type} : ∀ {l : List (DataW H)} {d : DataW H}, d ∈ l → Rows.uptoBulk d ≤ Rows.uptoBulkAll l
  | d0 :: l, d, h => by
    rw [Rows.uptoBulkAll]
    rcases List.mem_cons.1 h with rfl | h
    · omega
    · have := bulk_part h; omega
/-- A list of things, out of its one cell. -/
theorem rows_cell {H : Type} {enc : TypeId × Value → H} {W : World} {n : Nat} {c : Value} {y : DataW H × List MemPlace} {T : Type} {en : T → List Value} {sz : Nat} (hz : ∀ x, (en x).length = sz) (hpos : 0 < sz) (t0 : T) {t te : TypeId} (hu : Try.prog.underlying t = some (.slice te)) (hcl : Try.prog.cellsOf te = sz) (G : T → DataW H → Prop)
    (hel : ∀ n cs y, cs.length = sz → DataW.trod enc Try.prog W 0 (fun _ => true) true n te cs = some y → ∃ x : T, cs = en x ∧ G x y.1)
    (hy : DataW.trod enc Try.prog W 0 (fun _ => true) true n t [c] = some y) :
    ∃ (l : List T) (ds rs : List (DataW H)), Rx W sz c l.length (flt en l) ∧ l.length = ds.length ∧ (y.1 = .slice ds rs ∨ (ds = [] ∧ y.1 = .nil)) ∧ ∀ (i : Nat) (x : T), l[i]? = some x → ∃ d, ds[i]? = some d ∧ G x d := by
  rcases DataW.trod_slice hu hy with ⟨hcs, hd⟩ | ⟨a, len, cap, elems, rest, m, _, hcs, hd, _, hl, hm, hlen, hel2, _, _⟩
  · simp at hcs
    subst hcs
    exact ⟨[], [], [], by simpa [flt] using Rx.nil W sz, rfl, .inr ⟨rfl, by rw [hd]⟩, fun i x hx => by simp at hx⟩
  · simp at hcs
    subst hcs
    rw [hcl] at hel2
    have hd1 : y.1 = _ := congrArg Prod.fst hd
    have hex : ∀ i, ∃ x : T, i < len → (∃ d, (elems.map (·.1))[i]? = some d ∧ G x d) ∧ W.cells? 0 (a.add (i * sz)) sz = some (en x) := fun i => by
      by_cases hi : i < len
      · have hi' : i < elems.length := by omega
        have hb := (hel2 i hi).trans (List.getElem?_eq_getElem hi')
        rw [Option.bind_eq_some_iff] at hb
        obtain ⟨cs, hcs, hyy⟩ := hb
        obtain ⟨_, hl2, _⟩ := World.cells?_some hcs
        obtain ⟨x, ex, hg⟩ := hel m cs _ hl2 hyy
        exact ⟨x, fun _ => ⟨⟨_, by rw [List.getElem?_map, List.getElem?_eq_getElem hi']; rfl, hg⟩, by rw [← ex]; exact hcs⟩⟩
      · exact ⟨t0, fun h => absurd h hi⟩
    obtain ⟨f, hf⟩ := Classical.axiomOfChoice hex
    have hll : ((List.range len).map f).length = len := by simp
    refine ⟨(List.range len).map f, elems.map (·.1), rest.map (·.1), ⟨flt_length hz _, some a, cap, by rw [hll], by rw [hll]; exact hl, hm, fun h0 => ?_⟩, by simp [hlen], .inl hd1, fun i x hx => ?_⟩
    · rw [hll] at h0 ⊢
      obtain ⟨_, hc0⟩ := hf 0 h0
      obtain ⟨_, hl0, hcell0⟩ := World.cells?_some hc0
      have z0 := hcell0 0 hpos
      rw [Nat.zero_mul, add_zero', add_zero'] at z0
      obtain ⟨v0, hv0⟩ : ∃ v, (en (f 0))[0]? = some v := ⟨_, List.getElem?_eq_getElem (by rw [hz]; exact hpos)⟩
      have z1 : W.cell? a = some v0 := by rw [← hv0]; exact z0
      have hs := spot_none z1
      obtain ⟨b, off, spot⟩ := a
      simp at hs
      subst hs
      refine ⟨b, off, rfl, World.block_lt_of_cell? _ _ z1, fun j hj => ?_⟩
      have hq : j / sz < len := Nat.div_lt_of_lt_mul (by rw [Nat.mul_comm]; exact hj)
      have hr : j % sz < sz := Nat.mod_lt _ hpos
      have ej : j = j / sz * sz + j % sz := by rw [Nat.mul_comm]; exact (Nat.div_add_mod j sz).symm
      obtain ⟨_, hcj⟩ := hf (j / sz) hq
      obtain ⟨_, hlj, hcellj⟩ := World.cells?_some hcj
      have hc := hcellj (j % sz) hr
      rw [Go.WideShapes.add_plain, Go.WideShapes.add_plain] at hc
      rw [ej, flt_at hz (p := f (j / sz)) (by simp [hq]) (j % sz) hr, ← Nat.add_assoc]
      exact hc
    · have hi : i < len := by
        have := (List.getElem?_eq_some_iff.1 hx).1
        simpa using this
      have e : x = f i := by simp [hi] at hx; exact hx.symm
      rw [e]
      exact (hf i hi).1
/-- A list of what is known of each. -/
theorem pick_row {T U : Type} : ∀ (l : List T) (Q : Nat → T → U → Prop), (∀ (i : Nat) (x : T), l[i]? = some x → ∃ u, Q i x u) → ∃ us : List U, us.length = l.length ∧ ∀ (i : Nat) (u : U) (x : T), us[i]? = some u → l[i]? = some x → Q i x u
  | [], _, _ => ⟨[], rfl, fun i u x h => by simp at h⟩
  | y :: r, Q, h => by
    obtain ⟨v, hv⟩ := h 0 y rfl
    obtain ⟨us, h1, h2⟩ := pick_row r (fun i => Q (i + 1)) (fun i x hx => h (i + 1) x (by simpa using hx))
    refine ⟨v :: us, by simp [h1], fun i u x hu hx => ?_⟩
    cases i with
    | zero => simp at hu hx; subst hu hx; exact hv
    | succ i => exact h2 i u x (by simpa using hu) (by simpa using hx)
theorem i64_of {k : Int} (h : (Lit.int .i64 k).wf = true) : -9223372036854775808 ≤ k ∧ k < 9223372036854775808 := by
  have := bounds_i64 h
  omega
theorem u16_of {k : Int} (h : (Lit.int .u16 k).wf = true) : 0 ≤ k ∧ k < 65536 := by
  have := bounds_u16 h
  omega
section
variable {H : Type} {enc : TypeId × Value → H} {W : World}
theorem less_of {ds rs : List (DataW H)} {y : DataW H} {n : Nat} (h : y = .slice ds rs ∨ (ds = [] ∧ y = .nil)) (hn : n = ds.length) : n < Rows.uptoBulk y := by
  rcases h with rfl | ⟨rfl, rfl⟩
  · rw [Rows.uptoBulk]
    have := bulk_len ds
    omega
  · simp at hn; subst hn; exact bulk_one _
set_option maxRecDepth 100000 in
theorem spot_cells (n : Nat) (cs : List Value) (y : DataW H × List MemPlace) (hl : cs.length = 4) (h : DataW.trod enc Try.prog W 0 (fun _ => true) true n 56 cs = some y) : ∃ x : Sp, cs = enS x ∧ okS x := by
  obtain ⟨xs, q, _, rfl, _, hxl, hfs⟩ := DataW.trod_struct Try.underlying56 h
  match xs, hxl, cs, hl with
  | [y0, y1, y2, y3], _, [c0, c1, c2, c3], _ =>
    have g0 := hfs 0 _ rfl
    have g1 := hfs 1 _ rfl
    have g2 := hfs 2 _ rfl
    have g3 := hfs 3 _ rfl
    simp [cells3, cells2, cellsU] at g0 g1 g2 g3
    obtain ⟨k0, e0, _, w0⟩ := DataW.trod_int Try.underlying2 g0
    obtain ⟨k1, e1, _, w1⟩ := DataW.trod_int Try.underlying54 g1
    obtain ⟨k2, e2, _, w2⟩ := DataW.trod_int Try.underlying54 g2
    obtain ⟨k3, e3, _, w3⟩ := DataW.trod_int Try.underlying3 g3
    simp at e0 e1 e2 e3
    subst e0 e1 e2 e3
    exact ⟨⟨k0, k1, k2, k3⟩, rfl, i64_of w0, u16_of w1, u16_of w2, i64_of w3⟩
/-- A list of spots, out of its one cell. -/
def GR (H : Type) (W : World) (u : Value) (d : DataW H) : Prop :=
  ∃ (l : List Sp) (ds rs : List (DataW H)), Rx W 4 u l.length (flt enS l) ∧ l.length = ds.length ∧ (d = .slice ds rs ∨ (ds = [] ∧ d = .nil)) ∧ ∀ s ∈ l, okS s
theorem row_cells (n : Nat) (cs : List Value) (y : DataW H × List MemPlace) (hl : cs.length = 1) (h : DataW.trod enc Try.prog W 0 (fun _ => true) true n 53 cs = some y) : ∃ u : Value, cs = enV u ∧ GR H W u y.1 := by
  match cs, hl with
  | [u], _ =>
    obtain ⟨l, ds, rs, h1, h2, h3, h4⟩ := rows_cell zS (by omega) spZ Try.underlying53 cellsS (fun p _ => okS p) spot_cells h
    refine ⟨u, rfl, l, ds, rs, h1, h2, h3, fun s hs => ?_⟩
    obtain ⟨i, hi, rfl⟩ := List.getElem_of_mem hs
    obtain ⟨d, _, hd⟩ := h4 i _ (List.getElem?_eq_getElem hi)
    exact hd
/-- A profile in memory that came in. -/
def PfI (W : World) (v : Value) (f : List (List Sp)) (N : Nat) : Prop :=
  ∃ av, v = .agg #[av] ∧ PfV W av f ∧ f.length ≤ N ∧ ∀ l ∈ f, l.length ≤ N ∧ ∀ s ∈ l, okS s
theorem weights_mem_all {P : Program} {e : TypeId} : ∀ {l : List (DataW H)} {d : DataW H}, d ∈ l → ∀ n ∈ d.weights P e, n ∈ DataW.weightsAll P e l
  | d0 :: l, d, h, n, hn => by
    simp only [DataW.weightsAll, List.mem_append]
    rcases List.mem_cons.1 h with rfl | h
    · exact .inl hn
    · exact .inr (weights_mem_all h n hn)
theorem funcs_cell {n : Nat} {c : Value} {y : DataW H × List MemPlace} (hy : DataW.trod enc Try.prog W 0 (fun _ => true) true n 26 [c] = some y) :
    ∃ (f : List (List Sp)) (ds rs : List (DataW H)), PfV W c f ∧ f.length = ds.length ∧ (y.1 = .slice ds rs ∨ (ds = [] ∧ y.1 = .nil)) ∧ ∀ (i : Nat) (l : List Sp), f[i]? = some l → ∃ d ds' rs', ds[i]? = some d ∧ l.length = ds'.length ∧ (d = .slice ds' rs' ∨ (ds' = [] ∧ d = .nil)) ∧ ∀ s ∈ l, okS s := by
  obtain ⟨us, ds, rs, h1, h2, h3, h4⟩ := rows_cell zV (by omega) (.slice none 0 0) Try.underlying26 cellsR (GR H W) row_cells hy
  obtain ⟨f, q1, q2⟩ := pick_row (U := List Sp) us (fun i u l => Rx W 4 u l.length (flt enS l) ∧ ∃ d ds' rs', ds[i]? = some d ∧ l.length = ds'.length ∧ (d = .slice ds' rs' ∨ (ds' = [] ∧ d = .nil)) ∧ ∀ s ∈ l, okS s) (fun i u hu => by
    obtain ⟨d, hd, l, ds', rs', r1, r2, r3, r4⟩ := h4 i u hu
    exact ⟨l, r1, d, ds', rs', hd, r2, r3, r4⟩)
  refine ⟨f, ds, rs, ⟨us, q1.symm, h1, fun i l u hl hu => (q2 i l u hl hu).1⟩, by rw [q1]; exact h2, h3, fun i l hl => ?_⟩
  have hi := (List.getElem?_eq_some_iff.1 hl).1
  exact (q2 i l _ hl (List.getElem?_eq_getElem (by omega))).2
set_option maxRecDepth 100000 in
theorem inPf {base : Nat} {v : Value} {d : DataW H} {p : List MemPlace} (hv : Value.okWide Try.prog W .any base 28 v) (h : DataW.Trod enc Try.prog W 0 (fun _ => true) true 28 v d p) (hsz : ∀ m ∈ d.weights Try.prog 28, m ≤ reachBytes) : ∃ f, PfI W v f 5864062014634 := by
  obtain ⟨fuel, hf⟩ := h
  obtain ⟨cs, rfl, hcs⟩ := okWide_struct Try.underlying28 hv
  rw [cellsP] at hcs
  obtain ⟨cl⟩ := cs
  simp only [Value.cells] at hf
  obtain ⟨xs, m, _, hd, _, hxl, hfs⟩ := DataW.trod_struct Try.underlying28 hf
  have hd1 := ((Prod.mk.injEq _ _ _ _).mp hd).1
  match xs, hxl, cl, hcs with
  | [y0], _, [c0], _ =>
    have g0 := hfs 0 _ rfl
    simp [cellsF] at g0
    obtain ⟨f, ds, rs, h1, h2, h3, h4⟩ := funcs_cell g0
    have hs0 : ∀ m ∈ y0.1.weights Try.prog 26, m ≤ reachBytes := fun m hm => hsz m (by
      rw [hd1]
      simp only [DataW.weights, Try.underlying28]
      exact DataW.weights_mem_each (j := 0) rfl rfl m hm)
    refine ⟨f, c0, rfl, h1, ?_, fun l hl => ?_⟩
    · rcases h3 with e | ⟨e, _⟩
      · have := hs0 ((ds.length + rs.length) * Try.prog.bytesOf 53) (by rw [e]; simp [DataW.weights, Try.underlying26])
        rw [bytesR] at this
        unfold reachBytes at this
        omega
      · rw [h2, e]; simp
    · obtain ⟨i, hi, rfl⟩ := List.getElem_of_mem hl
      obtain ⟨dd, ds', rs', k1, k2, k3, k4⟩ := h4 i _ (List.getElem?_eq_getElem hi)
      refine ⟨?_, k4⟩
      rcases h3 with e | ⟨e, _⟩
      · rcases k3 with e2 | ⟨e2, _⟩
        · have := hs0 ((ds'.length + rs'.length) * Try.prog.bytesOf 56) (by
            rw [e]
            simp only [DataW.weights, Try.underlying26, List.mem_cons, List.mem_append]
            refine .inr (.inl (weights_mem_all (List.mem_of_getElem? k1) _ ?_))
            rw [e2]; simp [DataW.weights, Try.underlying53])
          rw [bytesS] at this
          unfold reachBytes at this
          omega
        · rw [k2, e2]; simp
      · rw [e] at k1; simp at k1
set_option maxRecDepth 100000 in
theorem inPfU {base : Nat} {v : Value} {d : DataW H} {p : List MemPlace} (hv : Value.okWide Try.prog W .any base 28 v) (h : DataW.Trod enc Try.prog W 0 (fun _ => true) true 28 v d p) (hb : Rows.uptoBulk d ≤ 1048576) : ∃ f, PfI W v f 1048576 := by
  obtain ⟨fuel, hf⟩ := h
  obtain ⟨cs, rfl, hcs⟩ := okWide_struct Try.underlying28 hv
  rw [cellsP] at hcs
  obtain ⟨cl⟩ := cs
  simp only [Value.cells] at hf
  obtain ⟨xs, m, _, hd, _, hxl, hfs⟩ := DataW.trod_struct Try.underlying28 hf
  have hd1 := ((Prod.mk.injEq _ _ _ _).mp hd).1
  match xs, hxl, cl, hcs with
  | [y0], _, [c0], _ =>
    have g0 := hfs 0 _ rfl
    simp [cellsF] at g0
    obtain ⟨f, ds, rs, h1, h2, h3, h4⟩ := funcs_cell g0
    have hb0 : Rows.uptoBulk y0.1 ≤ 1048576 := by
      rw [hd1, Rows.uptoBulk] at hb
      have := bulk_part (by simp : y0.1 ∈ [y0].map (·.1))
      omega
    refine ⟨f, c0, rfl, h1, ?_, fun l hl => ?_⟩
    · have := less_of h3 h2
      omega
    · obtain ⟨i, hi, rfl⟩ := List.getElem_of_mem hl
      obtain ⟨dd, ds', rs', k1, k2, k3, k4⟩ := h4 i _ (List.getElem?_eq_getElem hi)
      refine ⟨?_, k4⟩
      have := less_of k3 k2
      rcases h3 with e | ⟨e, _⟩
      · rw [e, Rows.uptoBulk] at hb0
        have := bulk_part (List.mem_of_getElem? k1)
        omega
      · rw [e] at k1; simp at k1
end
end Go.Proofs.Ytjjfpokmpcpicaa.into
