/-
  ProfileCut, the second form.
-/
import Derived.Test.YtclcebdcdbcpjaaGreatRows
import Derived.Test.YtclcebdcdbcpjaaGreatPfT
import Derived.ProofKit
import Derived.OpenShut
import Derived.ShutString
import Derived.ChangeOld
import Derived.SizedLaws
import Derived.SliceStrings
import Derived.Lib.SmallJoins
import Derived.Test.YtclcebdcdbcpjaaGreatCtL
import Derived.JoinedCond
namespace Go.Proofs.YtclcebdcdbcpjaaGreat.into
open Go.ChangeShapes Go.WideShapes Go.ChangeAt Go.RowKit Go.Joins
set_option linter.unusedVariables false
theorem own : ownKnob Tryz.prog.godebug = none := by kernel_rfl
theorem laidOut : laidOutB Tryz.prog = true := by kernel_rfl
theorem cells3 : Tryz.prog.cellsOf 3 = 1 := by kernel_rfl
theorem cells2 : Tryz.prog.cellsOf 2 = 1 := by kernel_rfl
theorem cellsU : Tryz.prog.cellsOf 60 = 1 := by kernel_rfl
theorem cellsS : Tryz.prog.cellsOf 62 = 4 := by kernel_rfl
theorem cellsR : Tryz.prog.cellsOf 64 = 1 := by kernel_rfl
theorem cellsF : Tryz.prog.cellsOf 23 = 1 := by kernel_rfl
theorem cellsP : Tryz.prog.cellsOf 25 = 1 := by kernel_rfl
theorem bytesS : Tryz.prog.bytesOf 62 = 24 := by kernel_rfl
theorem bytesR : Tryz.prog.bytesOf 64 = 24 := by kernel_rfl
theorem spot_none {w : World} {a : Addr} {v : Value} (h : w.cell? a = some v) : a.spot = none := by
  unfold World.cell? at h
  cases e : a.spot with
  | none => rfl
  | some s => simp [e] at h <;> (split at h <;> simp at h)
theorem add_zero' (a : Addr) : a.add 0 = a := by unfold Addr.add; rw [if_pos rfl]
theorem bulk_one {H : Type} (d : DataW H) : 1 ≤ Rows.uptoBulk d := by
  unfold Rows.uptoBulk
  split <;> omega
theorem bulk_len {H : Type} : ∀ l : List (DataW H), l.length ≤ Rows.uptoBulkAll l
  | [] => Nat.zero_le _
  | d :: r => by
    have h1 := bulk_one d
    have h2 := bulk_len r
    rw [Rows.uptoBulkAll, List.length_cons]
    omega
theorem bulk_part {H : Type} : ∀ {l : List (DataW H)} {d : DataW H}, d ∈ l → Rows.uptoBulk d ≤ Rows.uptoBulkAll l
  | d0 :: l, d, h => by
    rw [Rows.uptoBulkAll]
    rcases List.mem_cons.1 h with rfl | h
    · omega
    · have := bulk_part h; omega
/-- A list of things, out of its one cell. -/
theorem rows_cell {H : Type} {enc : TypeId × Value → H} {W : World} {n : Nat} {c : Value} {y : DataW H × List MemPlace} {T : Type} {en : T → List Value} {sz : Nat} (hz : ∀ x, (en x).length = sz) (hpos : 0 < sz) (t0 : T) {t te : TypeId} (hu : Tryz.prog.underlying t = some (.slice te)) (hcl : Tryz.prog.cellsOf te = sz) (G : T → DataW H → Prop)
    (hel : ∀ n cs y, cs.length = sz → DataW.trod enc Tryz.prog W 0 (fun _ => true) true n te cs = some y → ∃ x : T, cs = en x ∧ G x y.1)
    (hy : DataW.trod enc Tryz.prog W 0 (fun _ => true) true n t [c] = some y) :
    ∃ (l : List T) (ds rs : List (DataW H)), Rx W sz c l.length (flt en l) ∧ l.length = ds.length ∧ (y.1 = .slice ds rs ∨ (ds = [] ∧ y.1 = .nil)) ∧ ∀ (i : Nat) (x : T), l[i]? = some x → ∃ d, ds[i]? = some d ∧ G x d := by
  rcases DataW.trod_slice hu hy with ⟨hcs, hd⟩ | ⟨a, len, cap, elems, rest, m, _, hcs, hd, _, hl, hm, hlen, hel2, _, _⟩
  · simp at hcs
    subst hcs
    exact ⟨[], [], [], by simpa [flt] using Rx.nil W sz, rfl, .inr ⟨rfl, by rw [hd]⟩, fun i x hx => by simp at hx⟩
  · simp at hcs
    subst hcs
    rw [hcl] at hel2
    have hd1 : y.1 = _ := congrArg Prod.fst hd
    have hex : ∀ i, ∃ x : T, i < len → (∃ d, (elems.map (·.1))[i]? = some d ∧ G x d) ∧ W.cells? 0 (a.add (i * sz)) sz = some (en x) := fun i => by
      by_cases hi : i < len
      · have hi' : i < elems.length := by omega
        have hb := (hel2 i hi).trans (List.getElem?_eq_getElem hi')
        rw [Option.bind_eq_some_iff] at hb
        obtain ⟨cs, hcs, hyy⟩ := hb
        obtain ⟨_, hl2, _⟩ := World.cells?_some hcs
        obtain ⟨x, ex, hg⟩ := hel m cs _ hl2 hyy
        exact ⟨x, fun _ => ⟨⟨_, by rw [List.getElem?_map, List.getElem?_eq_getElem hi']; rfl, hg⟩, by rw [← ex]; exact hcs⟩⟩
      · exact ⟨t0, fun h => absurd h hi⟩
    obtain ⟨f, hf⟩ := Classical.axiomOfChoice hex
    have hll : ((List.range len).map f).length = len := by simp
    refine ⟨(List.range len).map f, elems.map (·.1), rest.map (·.1), ⟨flt_length hz _, some a, cap, by rw [hll], by rw [hll]; exact hl, hm, fun h0 => ?_⟩, by simp [hlen], .inl hd1, fun i x hx => ?_⟩
    · rw [hll] at h0 ⊢
      obtain ⟨_, hc0⟩ := hf 0 h0
      obtain ⟨_, hl0, hcell0⟩ := World.cells?_some hc0
      have z0 := hcell0 0 hpos
      rw [Nat.zero_mul, add_zero', add_zero'] at z0
      obtain ⟨v0, hv0⟩ : ∃ v, (en (f 0))[0]? = some v := ⟨_, List.getElem?_eq_getElem (by rw [hz]; exact hpos)⟩
      have z1 : W.cell? a = some v0 := by rw [← hv0]; exact z0
      have hs := spot_none z1
      obtain ⟨b, off, spot⟩ := a
      simp at hs
      subst hs
      refine ⟨b, off, rfl, World.block_lt_of_cell? _ _ z1, fun j hj => ?_⟩
      have hq : j / sz < len := Nat.div_lt_of_lt_mul (by rw [Nat.mul_comm]; exact hj)
      have hr : j % sz < sz := Nat.mod_lt _ hpos
      have ej : j = j / sz * sz + j % sz := by rw [Nat.mul_comm]; exact (Nat.div_add_mod j sz).symm
      obtain ⟨_, hcj⟩ := hf (j / sz) hq
      obtain ⟨_, hlj, hcellj⟩ := World.cells?_some hcj
      have hc := hcellj (j % sz) hr
      rw [Go.WideShapes.add_plain, Go.WideShapes.add_plain] at hc
      rw [ej, flt_at hz (p := f (j / sz)) (by simp [hq]) (j % sz) hr, ← Nat.add_assoc]
      exact hc
    · have hi : i < len := by
        have := (List.getElem?_eq_some_iff.1 hx).1
        simpa using this
      have e : x = f i := by simp [hi] at hx; exact hx.symm
      rw [e]
      exact (hf i hi).1
/-- A list of what is known of each. -/
theorem pick_row {T U : Type} : ∀ (l : List T) (Q : Nat → T → U → Prop), (∀ (i : Nat) (x : T), l[i]? = some x → ∃ u, Q i x u) → ∃ us : List U, us.length = l.length ∧ ∀ (i : Nat) (u : U) (x : T), us[i]? = some u → l[i]? = some x → Q i x u
  | [], _, _ => ⟨[], rfl, fun i u x h => by simp at h⟩
  | y :: r, Q, h => by
    obtain ⟨v, hv⟩ := h 0 y rfl
    obtain ⟨us, h1, h2⟩ := pick_row r (fun i => Q (i + 1)) (fun i x hx => h (i + 1) x (by simpa using hx))
    refine ⟨v :: us, by simp [h1], fun i u x hu hx => ?_⟩
    cases i with
    | zero => simp at hu hx; subst hu hx; exact hv
    | succ i => exact h2 i u x (by simpa using hu) (by simpa using hx)
theorem i64_of {k : Int} (h : (Lit.int .i64 k).wf = true) : -9223372036854775808 ≤ k ∧ k < 9223372036854775808 := by
  have := bounds_i64 h
  omega
theorem u16_of {k : Int} (h : (Lit.int .u16 k).wf = true) : 0 ≤ k ∧ k < 65536 := by
  have := bounds_u16 h
  omega
section
variable {H : Type} {enc : TypeId × Value → H} {W : World}
theorem less_of {ds rs : List (DataW H)} {y : DataW H} {n : Nat} (h : y = .slice ds rs ∨ (ds = [] ∧ y = .nil)) (hn : n = ds.length) : n < Rows.uptoBulk y := by
  rcases h with rfl | ⟨rfl, rfl⟩
  · rw [Rows.uptoBulk]
    have := bulk_len ds
    omega
  · simp at hn; subst hn; exact bulk_one _
set_option maxRecDepth 100000 in
theorem spot_cells (n : Nat) (cs : List Value) (y : DataW H × List MemPlace) (hl : cs.length = 4) (h : DataW.trod enc Tryz.prog W 0 (fun _ => true) true n 62 cs = some y) : ∃ x : Sp, cs = enS x ∧ okS x := by
  obtain ⟨xs, q, _, rfl, _, hxl, hfs⟩ := DataW.trod_struct Tryz.underlying62 h
  match xs, hxl, cs, hl with
  | [y0, y1, y2, y3], _, [c0, c1, c2, c3], _ =>
    have g0 := hfs 0 _ rfl
    have g1 := hfs 1 _ rfl
    have g2 := hfs 2 _ rfl
    have g3 := hfs 3 _ rfl
    simp [cells3, cells2, cellsU] at g0 g1 g2 g3
    obtain ⟨k0, e0, _, w0⟩ := DataW.trod_int Tryz.underlying2 g0
    obtain ⟨k1, e1, _, w1⟩ := DataW.trod_int Tryz.underlying60 g1
    obtain ⟨k2, e2, _, w2⟩ := DataW.trod_int Tryz.underlying60 g2
    obtain ⟨k3, e3, _, w3⟩ := DataW.trod_int Tryz.underlying3 g3
    simp at e0 e1 e2 e3
    subst e0 e1 e2 e3
    exact ⟨⟨k0, k1, k2, k3⟩, rfl, i64_of w0, u16_of w1, u16_of w2, i64_of w3⟩
/-- A list of spots, out of its one cell. -/
def GR (H : Type) (W : World) (u : Value) (d : DataW H) : Prop :=
  ∃ (l : List Sp) (ds rs : List (DataW H)), Rx W 4 u l.length (flt enS l) ∧ l.length = ds.length ∧ (d = .slice ds rs ∨ (ds = [] ∧ d = .nil)) ∧ ∀ s ∈ l, okS s
theorem row_cells (n : Nat) (cs : List Value) (y : DataW H × List MemPlace) (hl : cs.length = 1) (h : DataW.trod enc Tryz.prog W 0 (fun _ => true) true n 64 cs = some y) : ∃ u : Value, cs = enV u ∧ GR H W u y.1 := by
  match cs, hl with
  | [u], _ =>
    obtain ⟨l, ds, rs, h1, h2, h3, h4⟩ := rows_cell zS (by omega) spZ Tryz.underlying64 cellsS (fun p _ => okS p) spot_cells h
    refine ⟨u, rfl, l, ds, rs, h1, h2, h3, fun s hs => ?_⟩
    obtain ⟨i, hi, rfl⟩ := List.getElem_of_mem hs
    obtain ⟨d, _, hd⟩ := h4 i _ (List.getElem?_eq_getElem hi)
    exact hd
/-- A profile in memory that came in. -/
def PfI (W : World) (v : Value) (f : List (List Sp)) (N : Nat) : Prop :=
  ∃ av, v = .agg #[av] ∧ PfV W av f ∧ f.length ≤ N ∧ ∀ l ∈ f, l.length ≤ N ∧ ∀ s ∈ l, okS s
theorem weights_mem_all {P : Program} {e : TypeId} : ∀ {l : List (DataW H)} {d : DataW H}, d ∈ l → ∀ n ∈ d.weights P e, n ∈ DataW.weightsAll P e l
  | d0 :: l, d, h, n, hn => by
    simp only [DataW.weightsAll, List.mem_append]
    rcases List.mem_cons.1 h with rfl | h
    · exact .inl hn
    · exact .inr (weights_mem_all h n hn)
theorem funcs_cell {n : Nat} {c : Value} {y : DataW H × List MemPlace} (hy : DataW.trod enc Tryz.prog W 0 (fun _ => true) true n 23 [c] = some y) :
    ∃ (f : List (List Sp)) (ds rs : List (DataW H)), PfV W c f ∧ f.length = ds.length ∧ (y.1 = .slice ds rs ∨ (ds = [] ∧ y.1 = .nil)) ∧ ∀ (i : Nat) (l : List Sp), f[i]? = some l → ∃ d ds' rs', ds[i]? = some d ∧ l.length = ds'.length ∧ (d = .slice ds' rs' ∨ (ds' = [] ∧ d = .nil)) ∧ ∀ s ∈ l, okS s := by
  obtain ⟨us, ds, rs, h1, h2, h3, h4⟩ := rows_cell zV (by omega) (.slice none 0 0) Tryz.underlying23 cellsR (GR H W) row_cells hy
  obtain ⟨f, q1, q2⟩ := pick_row (U := List Sp) us (fun i u l => Rx W 4 u l.length (flt enS l) ∧ ∃ d ds' rs', ds[i]? = some d ∧ l.length = ds'.length ∧ (d = .slice ds' rs' ∨ (ds' = [] ∧ d = .nil)) ∧ ∀ s ∈ l, okS s) (fun i u hu => by
    obtain ⟨d, hd, l, ds', rs', r1, r2, r3, r4⟩ := h4 i u hu
    exact ⟨l, r1, d, ds', rs', hd, r2, r3, r4⟩)
  refine ⟨f, ds, rs, ⟨us, q1.symm, h1, fun i l u hl hu => (q2 i l u hl hu).1⟩, by rw [q1]; exact h2, h3, fun i l hl => ?_⟩
  have hi := (List.getElem?_eq_some_iff.1 hl).1
  exact (q2 i l _ hl (List.getElem?_eq_getElem (by omega))).2
set_option maxRecDepth 100000 in
theorem inPf {base : Nat} {v : Value} {d : DataW H} {p : List MemPlace} (hv : Value.okWide Tryz.prog W .any base 25 v) (h : DataW.Trod enc Tryz.prog W 0 (fun _ => true) true 25 v d p) (hsz : ∀ m ∈ d.weights Tryz.prog 25, m ≤ reachBytes) : ∃ f, PfI W v f 5864062014634 := by
  obtain ⟨fuel, hf⟩ := h
  obtain ⟨cs, rfl, hcs⟩ := okWide_struct Tryz.underlying25 hv
  rw [cellsP] at hcs
  obtain ⟨cl⟩ := cs
  simp only [Value.cells] at hf
  obtain ⟨xs, m, _, hd, _, hxl, hfs⟩ := DataW.trod_struct Tryz.underlying25 hf
  have hd1 := ((Prod.mk.injEq _ _ _ _).mp hd).1
  match xs, hxl, cl, hcs with
  | [y0], _, [c0], _ =>
    have g0 := hfs 0 _ rfl
    simp [cellsF] at g0
    obtain ⟨f, ds, rs, h1, h2, h3, h4⟩ := funcs_cell g0
    have hs0 : ∀ m ∈ y0.1.weights Tryz.prog 23, m ≤ reachBytes := fun m hm => hsz m (by
      rw [hd1]
      simp only [DataW.weights, Tryz.underlying25]
      exact DataW.weights_mem_each (j := 0) rfl rfl m hm)
    refine ⟨f, c0, rfl, h1, ?_, fun l hl => ?_⟩
    · rcases h3 with e | ⟨e, _⟩
      · have := hs0 ((ds.length + rs.length) * Tryz.prog.bytesOf 64) (by rw [e]; simp [DataW.weights, Tryz.underlying23])
        rw [bytesR] at this
        unfold reachBytes at this
        omega
      · rw [h2, e]; simp
    · obtain ⟨i, hi, rfl⟩ := List.getElem_of_mem hl
      obtain ⟨dd, ds', rs', k1, k2, k3, k4⟩ := h4 i _ (List.getElem?_eq_getElem hi)
      refine ⟨?_, k4⟩
      rcases h3 with e | ⟨e, _⟩
      · rcases k3 with e2 | ⟨e2, _⟩
        · have := hs0 ((ds'.length + rs'.length) * Tryz.prog.bytesOf 62) (by
            rw [e]
            simp only [DataW.weights, Tryz.underlying23, List.mem_cons, List.mem_append]
            refine .inr (.inl (weights_mem_all (List.mem_of_getElem? k1) _ ?_))
            rw [e2]; simp [DataW.weights, Tryz.underlying64])
          rw [bytesS] at this
          unfold reachBytes at this
          omega
        · rw [k2, e2]; simp
      · rw [e] at k1; simp at k1
set_option maxRecDepth 100000 in
theorem inPfU {base : Nat} {v : Value} {d : DataW H} {p : List MemPlace} (hv : Value.okWide Tryz.prog W .any base 25 v) (h : DataW.Trod enc Tryz.prog W 0 (fun _ => true) true 25 v d p) (hb : Rows.uptoBulk d ≤ 1048576) : ∃ f, PfI W v f 1048576 := by
  obtain ⟨fuel, hf⟩ := h
  obtain ⟨cs, rfl, hcs⟩ := okWide_struct Tryz.underlying25 hv
  rw [cellsP] at hcs
  obtain ⟨cl⟩ := cs
  simp only [Value.cells] at hf
  obtain ⟨xs, m, _, hd, _, hxl, hfs⟩ := DataW.trod_struct Tryz.underlying25 hf
  have hd1 := ((Prod.mk.injEq _ _ _ _).mp hd).1
  match xs, hxl, cl, hcs with
  | [y0], _, [c0], _ =>
    have g0 := hfs 0 _ rfl
    simp [cellsF] at g0
    obtain ⟨f, ds, rs, h1, h2, h3, h4⟩ := funcs_cell g0
    have hb0 : Rows.uptoBulk y0.1 ≤ 1048576 := by
      rw [hd1, Rows.uptoBulk] at hb
      have := bulk_part (by simp : y0.1 ∈ [y0].map (·.1))
      omega
    refine ⟨f, c0, rfl, h1, ?_, fun l hl => ?_⟩
    · have := less_of h3 h2
      omega
    · obtain ⟨i, hi, rfl⟩ := List.getElem_of_mem hl
      obtain ⟨dd, ds', rs', k1, k2, k3, k4⟩ := h4 i _ (List.getElem?_eq_getElem hi)
      refine ⟨?_, k4⟩
      have := less_of k3 k2
      rcases h3 with e | ⟨e, _⟩
      · rw [e, Rows.uptoBulk] at hb0
        have := bulk_part (List.mem_of_getElem? k1)
        omega
      · rw [e] at k1; simp at k1
end
end Go.Proofs.YtclcebdcdbcpjaaGreat.into
namespace Go.Proofs.YtclcebdcdbcpjaaGreat.into
open Go.ChangeShapes Go.WideShapes Go.ChangeAt Go.RowKit Go.Joins
set_option linter.unusedVariables false
theorem ci9 : Tryz.prog.cellsOf 9 = 1 := by kernel_rfl
theorem ci4 : Tryz.prog.cellsOf 4 = 1 := by kernel_rfl
theorem ci80 : Tryz.prog.cellsOf 80 = 1 := by kernel_rfl
theorem ci81 : Tryz.prog.cellsOf 81 = 1 := by kernel_rfl
theorem ci38 : Tryz.prog.cellsOf 38 = 1 := by kernel_rfl
theorem ci39 : Tryz.prog.cellsOf 39 = 1 := by kernel_rfl
theorem ci41 : Tryz.prog.cellsOf 41 = 2 := by kernel_rfl
theorem ci83 : Tryz.prog.cellsOf 83 = 5 := by kernel_rfl
theorem ci47 : Tryz.prog.cellsOf 47 = 1 := by kernel_rfl
theorem ci49 : Tryz.prog.cellsOf 49 = 6 := by kernel_rfl
theorem ci59 : Tryz.prog.cellsOf 59 = 2 := by kernel_rfl
section
variable {H : Type} {enc : TypeId × Value → H} {W : World}
theorem head_cell {n : Nat} {c : Value} {y : DataW H × List MemPlace} {t te : TypeId} (hu : Tryz.prog.underlying t = some (.slice te)) (hy : DataW.trod enc Tryz.prog W 0 (fun _ => true) true n t [c] = some y) : ∃ a len cap, c = .slice a len cap ∧ len ≤ Rows.uptoBulk y.1 := by
  rcases DataW.trod_slice hu hy with ⟨hcs, hd⟩ | ⟨a, len, cap, elems, rest, m, _, hcs, hd, _, hl, hm, hlen, hel2, _, _⟩
  · simp at hcs
    subst hcs
    exact ⟨none, 0, 0, rfl, Nat.zero_le _⟩
  · simp at hcs
    subst hcs
    have hd1 : y.1 = _ := congrArg Prod.fst hd
    refine ⟨some a, len, cap, rfl, ?_⟩
    rw [hd1, Rows.uptoBulk]
    have := bulk_len (elems.map (·.1))
    rw [List.length_map] at this
    omega
def GFl (H : Type) (x : Fv) (d : DataW H) : Prop := ∃ a n c ha hn hc, x.cv = .slice a n c ∧ x.hv = .slice ha hn hc ∧ n ≤ Rows.uptoBulk d
set_option maxRecDepth 100000 in
theorem funL_cells (n : Nat) (cs : List Value) (y : DataW H × List MemPlace) (hl : cs.length = 5) (h : DataW.trod enc Tryz.prog W 0 (fun _ => true) true n 83 cs = some y) : ∃ x : Fv, cs = enF x ∧ GFl H x y.1 := by
  obtain ⟨xs, q, _, hd, _, hxl, hfs⟩ := DataW.trod_struct Tryz.underlying83 h
  have hd1 : y.1 = _ := congrArg Prod.fst hd
  match xs, hxl, cs, hl with
  | [y0, y1, y2, y3, y4], _, [c0, c1, c2, c3, c4], _ =>
    have g0 := hfs 0 _ rfl
    have g1 := hfs 1 _ rfl
    have g2 := hfs 2 _ rfl
    have g3 := hfs 3 _ rfl
    have g4 := hfs 4 _ rfl
    simp [cells3, ci9, ci80, ci81] at g0 g1 g2 g3 g4
    obtain ⟨t, e0, _, wt⟩ := DataW.trod_string Tryz.underlying9 g0
    obtain ⟨k, e1, _, wk⟩ := DataW.trod_int Tryz.underlying3 g1
    obtain ⟨m, e2, _, wm⟩ := DataW.trod_int Tryz.underlying3 g2
    simp at e0 e1 e2
    subst e0 e1 e2
    obtain ⟨a, n3, c, rfl, b3⟩ := head_cell Tryz.underlying80 g3
    obtain ⟨ha, n4, hc, rfl, b4⟩ := head_cell Tryz.underlying81 g4
    have bs : Rows.uptoBulk y3.1 ≤ Rows.uptoBulk y.1 := by
      rw [hd1, Rows.uptoBulk]
      have := bulk_part (List.mem_map.2 ⟨y3, by simp, rfl⟩ : y3.1 ∈ [y0, y1, y2, y3, y4].map (·.1))
      omega
    exact ⟨⟨t, k, m, .slice a n3 c, .slice ha n4 hc⟩, rfl, a, n3, c, ha, n4, hc, rfl, rfl, Nat.le_trans b3 bs⟩
theorem sum_bulk : ∀ (ns : List Nat) (ds : List (DataW H)), ns.length = ds.length → (∀ (i : Nat) (n : Nat) (d : DataW H), ns[i]? = some n → ds[i]? = some d → n ≤ Rows.uptoBulk d) → ns.sum ≤ Rows.uptoBulkAll ds
  | [], [], _, _ => by simp
  | n :: ns, d :: ds, hl, h => by
    have h1 := h 0 n d rfl rfl
    have h2 := sum_bulk ns ds (by simpa using hl) (fun i n d a b => h (i + 1) n d (by simpa using a) (by simpa using b))
    rw [Rows.uptoBulkAll, List.sum_cons]
    omega
  | [], _ :: _, hl, _ => by simp at hl
  | _ :: _, [], hl, _ => by simp at hl
set_option maxRecDepth 100000 in
/-- A program that came in. -/
theorem inPg {base : Nat} {v : Value} {d : DataW H} {p : List MemPlace} (hv : Value.okWide Tryz.prog W .any base 41 v) (h : DataW.Trod enc Tryz.prog W 0 (fun _ => true) true 41 v d p) (hb : Rows.uptoBulk d ≤ 1048576) :
    ∃ sh : List Nat, PgL W v sh ∧ sh.length ≤ 1048576 ∧ sh.sum ≤ 1048576 := by
  obtain ⟨fuel, hf⟩ := h
  obtain ⟨cs, rfl, hcs⟩ := okWide_struct Tryz.underlying41 hv
  rw [ci41] at hcs
  obtain ⟨cl⟩ := cs
  simp only [Value.cells] at hf
  obtain ⟨xs, m, _, hd, _, hxl, hfs⟩ := DataW.trod_struct Tryz.underlying41 hf
  have hd1 := ((Prod.mk.injEq _ _ _ _).mp hd).1
  match xs, hxl, cl, hcs with
  | [y0, y1], _, [c0, c1], _ =>
    have g0 := hfs 0 _ rfl
    have g1 := hfs 1 _ rfl
    simp [ci38, ci39] at g0 g1
    have b1 : Rows.uptoBulk y1.1 ≤ 1048576 := by
      rw [hd1, Rows.uptoBulk] at hb
      have := bulk_part (List.mem_map.2 ⟨y1, by simp, rfl⟩ : y1.1 ∈ [y0, y1].map (·.1))
      omega
    obtain ⟨ca, cn, cc, rfl, _⟩ := head_cell Tryz.underlying38 g0
    obtain ⟨l1, d1, r1, x1, n1, s1, o1⟩ := rows_cell zF (by omega) (⟨ByteArray.empty, 0, 0, .slice none 0 0, .slice none 0 0⟩ : Fv) Tryz.underlying39 ci83 (GFl H) funL_cells g1
    have hex : ∀ i, ∃ n : Nat, i < l1.length → ∃ x dd, l1[i]? = some x ∧ d1[i]? = some dd ∧ (∃ a c ha hn hc, x.cv = .slice a n c ∧ x.hv = .slice ha hn hc) ∧ n ≤ Rows.uptoBulk dd := fun i => by
      by_cases hi : i < l1.length
      · obtain ⟨dd, hdd, a, n, c, ha, hn, hc, q1, q2, q3⟩ := o1 i _ (List.getElem?_eq_getElem hi)
        exact ⟨n, fun _ => ⟨_, dd, List.getElem?_eq_getElem hi, hdd, ⟨a, c, ha, hn, hc, q1, q2⟩, q3⟩⟩
      · exact ⟨0, fun h => absurd h hi⟩
    obtain ⟨N, hN⟩ := Classical.axiomOfChoice hex
    have hlen : ((List.range l1.length).map N).length = l1.length := by simp
    have hat : ∀ (i : Nat) (n : Nat), ((List.range l1.length).map N)[i]? = some n → i < l1.length ∧ n = N i := fun i n hf => by
      have hi : i < l1.length := by have := (List.getElem?_eq_some_iff.1 hf).1; simpa using this
      exact ⟨hi, by simp [hi] at hf; exact hf.symm⟩
    have hall : Rows.uptoBulkAll d1 ≤ 1048576 := by
      rcases s1 with e | ⟨e, _⟩
      · rw [e, Rows.uptoBulk] at b1; omega
      · rw [e, Rows.uptoBulkAll]; omega
    have hdl := bulk_len d1
    refine ⟨(List.range l1.length).map N, ⟨_, _, l1, rfl, hlen.symm, x1, ⟨ca, cn, cc, rfl⟩, fun i n x hn hx => ?_⟩, by rw [hlen]; omega, Nat.le_trans (sum_bulk _ d1 (by rw [hlen]; exact n1) (fun i n dd hn hdd => ?_)) hall⟩
    · obtain ⟨hi, rfl⟩ := hat i n hn
      obtain ⟨x', dd, e1, e2, e3, e4⟩ := hN i hi
      rw [hx] at e1
      cases e1
      exact e3
    · obtain ⟨hi, rfl⟩ := hat i n hn
      obtain ⟨x', dd', e1, e2, e3, e4⟩ := hN i hi
      rw [hdd] at e2
      cases e2
      exact e4
set_option maxRecDepth 100000 in
theorem val_cells (n : Nat) (cs : List Value) (y : DataW H × List MemPlace) (hl : cs.length = 2) (h : DataW.trod enc Tryz.prog W 0 (fun _ => true) true n 59 cs = some y) : ∃ x : Int × Int, cs = enI x ∧ True := by
  obtain ⟨xs, q, _, rfl, _, hxl, hfs⟩ := DataW.trod_struct Tryz.underlying59 h
  match xs, hxl, cs, hl with
  | [y0, y1], _, [c0, c1], _ =>
    have g0 := hfs 0 _ rfl
    have g1 := hfs 1 _ rfl
    simp [cells3, cells2] at g0 g1
    obtain ⟨k, e0, rfl, wk⟩ := DataW.trod_int Tryz.underlying3 g0
    obtain ⟨m, e1, rfl, wm⟩ := DataW.trod_int Tryz.underlying2 g1
    simp at e0 e1
    subst e0 e1
    exact ⟨(k, m), rfl, trivial⟩
def GNt (H : Type) (W : World) (x : Nt × Value) (d : DataW H) : Prop := Rx W 2 x.2 x.1.ar.length (flt enI x.1.ar) ∧ I64 x.1.on ∧ OkV (x.1.fn, x.1.pc) ∧ I64 x.1.k ∧ x.1.ar.length ≤ Rows.uptoBulk d
set_option maxRecDepth 100000 in
theorem note_cells (n : Nat) (cs : List Value) (y : DataW H × List MemPlace) (hl : cs.length = 6) (h : DataW.trod enc Tryz.prog W 0 (fun _ => true) true n 49 cs = some y) : ∃ x : Nt × Value, cs = enM x ∧ GNt H W x y.1 := by
  obtain ⟨xs, q, _, hd, _, hxl, hfs⟩ := DataW.trod_struct Tryz.underlying49 h
  have hd1 : y.1 = _ := congrArg Prod.fst hd
  match xs, hxl, cs, hl with
  | [y0, y1, y2, y3, y4, y5], _, [c0, c1, c2, c3, c4, c5], _ =>
    have g0 := hfs 0 _ rfl
    have g1 := hfs 1 _ rfl
    have g2 := hfs 2 _ rfl
    have g3 := hfs 3 _ rfl
    have g4 := hfs 4 _ rfl
    have g5 := hfs 5 _ rfl
    simp [cells3, ci4, ci47] at g0 g1 g2 g3 g4 g5
    obtain ⟨k0, e0, _, w0⟩ := DataW.trod_int Tryz.underlying3 g0
    obtain ⟨k1, e1, _, w1⟩ := DataW.trod_int Tryz.underlying3 g1
    obtain ⟨k2, e2, _, w2⟩ := DataW.trod_int Tryz.underlying3 g2
    obtain ⟨k4, e4, _, w4⟩ := DataW.trod_int Tryz.underlying3 g4
    obtain ⟨k5, e5, _⟩ := DataW.trod_bool Tryz.underlying4 g5
    simp at e0 e1 e2 e4 e5
    subst e0 e1 e2 e4 e5
    obtain ⟨l3, d3, r3, x3, n3, s3, _⟩ := rows_cell zI (by omega) ((0 : Int), (0 : Int)) Tryz.underlying47 ci59 (fun _ _ => True) val_cells g3
    have hs3 : l3.length ≤ Rows.uptoBulk y3.1 := by
      rcases s3 with e | ⟨e, _⟩
      · rw [e, Rows.uptoBulk]; have := bulk_len d3; omega
      · have : l3.length = 0 := by rw [n3, e]; rfl
        omega
    have bs : Rows.uptoBulk y3.1 ≤ Rows.uptoBulk y.1 := by
      rw [hd1, Rows.uptoBulk]
      have := bulk_part (List.mem_map.2 ⟨y3, by simp, rfl⟩ : y3.1 ∈ [y0, y1, y2, y3, y4, y5].map (·.1))
      omega
    exact ⟨(⟨k0, k1, k2, l3, k4, k5⟩, c3), rfl, x3, i64_of w0, ⟨w1, w2⟩, i64_of w4, Nat.le_trans hs3 bs⟩
set_option maxRecDepth 100000 in
/-- Notes that came in. -/
theorem inNt {base : Nat} {v : Value} {d : DataW H} {p : List MemPlace} (hv : Value.okWide Tryz.prog W .any base 42 v) (h : DataW.Trod enc Tryz.prog W 0 (fun _ => true) true 42 v d p) (hb : Rows.uptoBulk d ≤ 1048576) :
    ∃ ns : List Nt, NtV W v ns ∧ ns.length ≤ 1048576 ∧ ∀ n ∈ ns, OkN n := by
  obtain ⟨fuel, hf⟩ := h
  obtain ⟨a0, len0, cap0, rfl⟩ := okWide_slice Tryz.underlying42 hv
  simp only [Value.cells] at hf
  obtain ⟨l, ds, rs, hx, hl, hy, ho⟩ := rows_cell zM (by omega) ((⟨0, 0, 0, [], 0, false⟩ : Nt), (.slice none 0 0 : Value)) Tryz.underlying42 ci49 (GNt H W) note_cells hf
  have hall : Rows.uptoBulkAll ds ≤ 1048576 := by
    rcases hy with e | ⟨e, _⟩
    · have e : d = DataW.slice ds rs := e
      rw [e, Rows.uptoBulk] at hb; omega
    · rw [e, Rows.uptoBulkAll]; omega
  have hdl := bulk_len ds
  refine ⟨l.map Prod.fst, ⟨l, rfl, hx, fun x hx => ?_⟩, by rw [List.length_map]; omega, fun n hn => ?_⟩
  · obtain ⟨i, hi, rfl⟩ := List.getElem_of_mem hx
    obtain ⟨_, _, h⟩ := ho i _ (List.getElem?_eq_getElem hi)
    exact h.1
  · obtain ⟨x, hx, rfl⟩ := List.mem_map.1 hn
    obtain ⟨i, hi, rfl⟩ := List.getElem_of_mem hx
    obtain ⟨dd, hdd, h⟩ := ho i _ (List.getElem?_eq_getElem hi)
    have := bulk_part (List.mem_of_getElem? hdd)
    exact ⟨h.2.1, h.2.2.1, h.2.2.2.1, by have := h.2.2.2.2; omega⟩
end
end Go.Proofs.YtclcebdcdbcpjaaGreat.into
namespace Go.Proofs.YtclcebdcdbcpjaaGreat
open Go.RowKit
theorem cutIn {w : World} {u v x : Value} {sh : List Nat} {f : List (List Sp)} {ns : List Nt} (ha : PgL w u sh ∧ sh.length ≤ 1048576 ∧ sh.sum ≤ 1048576) (hb : into.PfI w v f 1048576) (hc : NtV w x ns ∧ ns.length ≤ 1048576 ∧ ∀ n ∈ ns, OkN n) : Calls Tryz.prog 5 #[u, v, x] w fun e w' => e = .returned (.bool true) ∧ Below w.heap.size w w' := by
  obtain ⟨av, rfl, h1, h2, h3⟩ := hb
  exact cutLaw ha.1 h1 (fun l hl => (h3 l hl).2) hc.1 hc.2.2 (by omega) (by omega) (by omega)
end Go.Proofs.YtclcebdcdbcpjaaGreat
namespace Go.Proofs.YtclcebdcdbcpjaaGreat.profileCut
open Go.ChangeShapes Go.WideShapes Go.ChangeAt Go.RowKit Go.Joins
set_option linter.unusedVariables false

set_option maxRecDepth 100000 in
theorem lifted (os : Os) (started : os.Started) (H : Type) (enc : TypeId × Value → H) (F : Stop.Interp) :
    ReturnsInHanded {} Tryz.checked os 5 .any ((Rows.OpenSpec.upto Rows.profileCutSpec).pre6 enc Tryz.prog Tryz.f5 Rows.profileCutUptoRow.domain false) (((Rows.OpenSpec.upto Rows.profileCutSpec).at F).post enc Tryz.prog Tryz.f5 false true false false) := by
  refine returnsInHanded_of_cond (C := Tryz.checked) (s := Rows.OpenSpec.upto Rows.profileCutSpec) (k := Rows.uptoSmall) rfl into.own started (by kernel_rfl) Tryz.func5
    (OpenSpec.witness (enc := enc) (C := Tryz.checked) (s := Rows.OpenSpec.upto Rows.profileCutSpec) (k := Rows.uptoSmall) rfl false ⟨#[], #[.agg #[.slice none 0 0, .slice none 0 0], .agg #[.slice none 0 0], .slice none 0 0], []⟩ 8 (by kernel_rfl) (by kernel_rfl) (by kernel_rfl)
      (x := ([.agg [.nil, .nil], .agg [.nil], .nil], [], [])) (by kernel_rfl) rfl (by kernel_rfl)) ?_
  intro W base args ds gs before hval0 hW _ hk _
  have hval : ∀ (j : Nat) t v, Tryz.f5.params[j]? = some t → args[j]? = some v → Value.okWide Tryz.prog W .any base t v := hval0
  have hW' := hW
  obtain ⟨p, q, hA0, hV, rfl, hfz, hnd⟩ := hW
  have hA : DataW.TrodAll enc Tryz.prog W 0 (fun _ => true) true Tryz.f5.params.toList args.toList ds p := hA0
  rw [Tryz.params5] at hA hval
  obtain ⟨v0, vs0, d0, ds0, p0, q0, hargs, rfl, rfl, h0, r0⟩ := trodAll_cons hA
  obtain ⟨v1, vs1, d1, ds1, p1, q1, rfl, rfl, rfl, h1, r1⟩ := trodAll_cons r0
  obtain ⟨v2, vs2, d2, ds2, p2, q2, rfl, rfl, rfl, h2, r2⟩ := trodAll_cons r1
  obtain ⟨rfl, rfl, rfl⟩ := trodAll_nil r2
  obtain rfl : args = #[v0, v1, v2] := by cases args; simp_all
  obtain ⟨rfl, rfl⟩ := trodVars_none hV
  have hall : Rows.uptoBulkAll ([d0, d1, d2] ++ []) ≤ 1048576 := of_decide_eq_true hk
  simp only [List.append_nil] at hall
  have hbk : ∀ d ∈ [d0, d1, d2], Rows.uptoBulk d ≤ 1048576 := fun d hd => Nat.le_trans (into.bulk_part hd) hall
  have k0 := h0
  have lt0 : ∀ x ∈ p0, x.block < W.heap.size := by obtain ⟨m, hm⟩ := k0; exact DataW.trod_lt m _ _ _ hm
  obtain ⟨x0, hx0⟩ := into.inPg (hval 0 41 v0 rfl rfl) h0 (hbk d0 (by simp))
  have k1 := h1
  have lt1 : ∀ x ∈ p1, x.block < W.heap.size := by obtain ⟨m, hm⟩ := k1; exact DataW.trod_lt m _ _ _ hm
  obtain ⟨x1, hx1⟩ := into.inPfU (hval 1 25 v1 rfl rfl) h1 (hbk d1 (by simp))
  have k2 := h2
  have lt2 : ∀ x ∈ p2, x.block < W.heap.size := by obtain ⟨m, hm⟩ := k2; exact DataW.trod_lt m _ _ _ hm
  obtain ⟨x2, hx2⟩ := into.inNt (hval 2 42 v2 rfl rfl) h2 (hbk d2 (by simp))
  clear hA0 hval0
  simp only [List.append_nil] at hW'
  refine (cutIn hx0 hx1 hx2).mono fun e W' ⟨he, bel⟩ => ?_
  subst he
  exact ⟨_, rfl, _, _, _, [], _, [], hW', trodAll_mk1 (shut_bool Tryz.underlying4 _), (trodAll_cons_mk (Below.trod into.laidOut (by kernel_rfl) (of_decide_eq_true (by kernel_rfl)) k0 bel lt0) (trodAll_cons_mk (Below.trod into.laidOut (by kernel_rfl) (of_decide_eq_true (by kernel_rfl)) k1 bel lt1) (trodAll_cons_mk (Below.trod into.laidOut (by kernel_rfl) (of_decide_eq_true (by kernel_rfl)) k2 bel lt2) trodAll_mk0))), rfl, bel.frame _, fun h => by cases h⟩

theorem over : Rows.profileCutUptoRow.holds Tryz.pinned (Rows.OpenSpec.upto Rows.profileCutSpec) :=
  OpenClaim.holds_of_cond 5 Tryz.f5 rfl rfl rfl rfl rfl rfl rfl ⟨rfl, rfl, rfl, rfl, rfl⟩ rfl rfl rfl rfl rfl (by kernel_rfl) Tryz.func5 (by kernel_rfl)
    (of_decide_eq_true (by kernel_rfl)) (by unfold Func.isWrapper; first | (rw [if_pos (by decide +kernel)]; kernel_rfl) | (rw [if_neg (by decide +kernel)]; exact ⟨rfl, rfl⟩))
    (fun os started H enc _ F => lifted os started H enc F)

theorem proved : Rows.ProfileCutUptoSaid := over
#print axioms proved
end Go.Proofs.YtclcebdcdbcpjaaGreat.profileCut
