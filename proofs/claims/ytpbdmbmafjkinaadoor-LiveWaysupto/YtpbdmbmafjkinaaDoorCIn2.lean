/-
  Register code that came in: the sum of its lists is bounded.
-/
import Derived.Test.YtpbdmbmafjkinaaDoorRows
import Derived.Test.YtpbdmbmafjkinaaDoorRn
import Derived.ProofKit
import Derived.OpenShut
import Derived.ShutString
import Derived.ChangeOld
import Derived.SizedLaws
import Derived.SliceStrings
import Derived.Lib.SmallJoins
import Derived.Test.YtpbdmbmafjkinaaDoorRgC
namespace Go.Proofs.YtpbdmbmafjkinaaDoor.into
open Go.ChangeShapes Go.WideShapes Go.ChangeAt Go.RowKit Go.Joins
set_option linter.unusedVariables false
theorem own : ownKnob Tryd.prog.godebug = none := by kernel_rfl
theorem laidOut : laidOutB Tryd.prog = true := by kernel_rfl
theorem cells3 : Tryd.prog.cellsOf 3 = 1 := by kernel_rfl
theorem cells2 : Tryd.prog.cellsOf 2 = 1 := by kernel_rfl
theorem cells51 : Tryd.prog.cellsOf 70 = 2 := by kernel_rfl
theorem cells53 : Tryd.prog.cellsOf 73 = 3 := by kernel_rfl
theorem cells45 : Tryd.prog.cellsOf 51 = 8 := by kernel_rfl
theorem cells25 : Tryd.prog.cellsOf 47 = 3 := by kernel_rfl
theorem cells42 : Tryd.prog.cellsOf 48 = 1 := by kernel_rfl
theorem cells43 : Tryd.prog.cellsOf 49 = 1 := by kernel_rfl
theorem cells22 : Tryd.prog.cellsOf 45 = 1 := by kernel_rfl
theorem cells23 : Tryd.prog.cellsOf 25 = 1 := by kernel_rfl
theorem cellsC : Tryd.prog.cellsOf 24 = 3 := by kernel_rfl
theorem cellsB : Tryd.prog.cellsOf 22 = 1 := by kernel_rfl
theorem spot_none {w : World} {a : Addr} {v : Value} (h : w.cell? a = some v) : a.spot = none := by
  unfold World.cell? at h
  cases e : a.spot with
  | none => rfl
  | some s => simp [e] at h <;> (split at h <;> simp at h)
theorem add_zero' (a : Addr) : a.add 0 = a := by unfold Addr.add; rw [if_pos rfl]
theorem bulk_one {H : Type} (d : DataW H) : 1 ≤ Rows.uptoBulk d := by
  unfold Rows.uptoBulk
  split <;> omega
theorem bulk_len {H : Type} : ∀ l : List (DataW H), l.length ≤ Rows.uptoBulkAll l
  | [] => Nat.zero_le _
  | d :: r => by
    have h1 := bulk_one d
    have h2 := bulk_len r
    rw [Rows.uptoBulkAll, List.length_cons]
    omega
theorem bulk_part {H : Type} : ∀ {l : List (DataW H)} {d : DataW H}, d ∈ l → Rows.uptoBulk d ≤ Rows.uptoBulkAll l
  | d0 :: l, d, h => by
    rw [Rows.uptoBulkAll]
    rcases List.mem_cons.1 h with rfl | h
    · omega
    · have := bulk_part h; omega
/-- A list of things, out of its one cell. -/
theorem rows_cell {H : Type} {enc : TypeId × Value → H} {W : World} {n : Nat} {c : Value} {y : DataW H × List MemPlace} {T : Type} {en : T → List Value} {sz : Nat} (hz : ∀ x, (en x).length = sz) (hpos : 0 < sz) (t0 : T) {t te : TypeId} (hu : Tryd.prog.underlying t = some (.slice te)) (hcl : Tryd.prog.cellsOf te = sz) (G : T → DataW H → Prop)
    (hel : ∀ n cs y, cs.length = sz → DataW.trod enc Tryd.prog W 0 (fun _ => true) true n te cs = some y → ∃ x : T, cs = en x ∧ G x y.1)
    (hy : DataW.trod enc Tryd.prog W 0 (fun _ => true) true n t [c] = some y) :
    ∃ (l : List T) (ds rs : List (DataW H)), Rx W sz c l.length (flt en l) ∧ l.length = ds.length ∧ (y.1 = .slice ds rs ∨ (ds = [] ∧ y.1 = .nil)) ∧ ∀ (i : Nat) (x : T), l[i]? = some x → ∃ d, ds[i]? = some d ∧ G x d := by
  rcases DataW.trod_slice hu hy with ⟨hcs, hd⟩ | ⟨a, len, cap, elems, rest, m, _, hcs, hd, _, hl, hm, hlen, hel2, _, _⟩
  · simp at hcs
    subst hcs
    exact ⟨[], [], [], by simpa [flt] using Rx.nil W sz, rfl, .inr ⟨rfl, by rw [hd]⟩, fun i x hx => by simp at hx⟩
  · simp at hcs
    subst hcs
    rw [hcl] at hel2
    have hd1 : y.1 = _ := congrArg Prod.fst hd
    have hex : ∀ i, ∃ x : T, i < len → (∃ d, (elems.map (·.1))[i]? = some d ∧ G x d) ∧ W.cells? 0 (a.add (i * sz)) sz = some (en x) := fun i => by
      by_cases hi : i < len
      · have hi' : i < elems.length := by omega
        have hb := (hel2 i hi).trans (List.getElem?_eq_getElem hi')
        rw [Option.bind_eq_some_iff] at hb
        obtain ⟨cs, hcs, hyy⟩ := hb
        obtain ⟨_, hl2, _⟩ := World.cells?_some hcs
        obtain ⟨x, ex, hg⟩ := hel m cs _ hl2 hyy
        exact ⟨x, fun _ => ⟨⟨_, by rw [List.getElem?_map, List.getElem?_eq_getElem hi']; rfl, hg⟩, by rw [← ex]; exact hcs⟩⟩
      · exact ⟨t0, fun h => absurd h hi⟩
    obtain ⟨f, hf⟩ := Classical.axiomOfChoice hex
    have hll : ((List.range len).map f).length = len := by simp
    refine ⟨(List.range len).map f, elems.map (·.1), rest.map (·.1), ⟨flt_length hz _, some a, cap, by rw [hll], by rw [hll]; exact hl, hm, fun h0 => ?_⟩, by simp [hlen], .inl hd1, fun i x hx => ?_⟩
    · rw [hll] at h0 ⊢
      obtain ⟨_, hc0⟩ := hf 0 h0
      obtain ⟨_, hl0, hcell0⟩ := World.cells?_some hc0
      have z0 := hcell0 0 hpos
      rw [Nat.zero_mul, add_zero', add_zero'] at z0
      obtain ⟨v0, hv0⟩ : ∃ v, (en (f 0))[0]? = some v := ⟨_, List.getElem?_eq_getElem (by rw [hz]; exact hpos)⟩
      have z1 : W.cell? a = some v0 := by rw [← hv0]; exact z0
      have hs := spot_none z1
      obtain ⟨b, off, spot⟩ := a
      simp at hs
      subst hs
      refine ⟨b, off, rfl, World.block_lt_of_cell? _ _ z1, fun j hj => ?_⟩
      have hq : j / sz < len := Nat.div_lt_of_lt_mul (by rw [Nat.mul_comm]; exact hj)
      have hr : j % sz < sz := Nat.mod_lt _ hpos
      have ej : j = j / sz * sz + j % sz := by rw [Nat.mul_comm]; exact (Nat.div_add_mod j sz).symm
      obtain ⟨_, hcj⟩ := hf (j / sz) hq
      obtain ⟨_, hlj, hcellj⟩ := World.cells?_some hcj
      have hc := hcellj (j % sz) hr
      rw [Go.WideShapes.add_plain, Go.WideShapes.add_plain] at hc
      rw [ej, flt_at hz (p := f (j / sz)) (by simp [hq]) (j % sz) hr, ← Nat.add_assoc]
      exact hc
    · have hi : i < len := by
        have := (List.getElem?_eq_some_iff.1 hx).1
        simpa using this
      have e : x = f i := by simp [hi] at hx; exact hx.symm
      rw [e]
      exact (hf i hi).1
/-- A list of what is known of each. -/
theorem pick_row {T U : Type} : ∀ (l : List T) (Q : Nat → T → U → Prop), (∀ (i : Nat) (x : T), l[i]? = some x → ∃ u, Q i x u) → ∃ us : List U, us.length = l.length ∧ ∀ (i : Nat) (u : U) (x : T), us[i]? = some u → l[i]? = some x → Q i x u
  | [], _, _ => ⟨[], rfl, fun i u x h => by simp at h⟩
  | y :: r, Q, h => by
    obtain ⟨v, hv⟩ := h 0 y rfl
    obtain ⟨us, h1, h2⟩ := pick_row r (fun i => Q (i + 1)) (fun i x hx => h (i + 1) x (by simpa using hx))
    refine ⟨v :: us, by simp [h1], fun i u x hu hx => ?_⟩
    cases i with
    | zero => simp at hu hx; subst hu hx; exact hv
    | succ i => exact h2 i u x (by simpa using hu) (by simpa using hx)

theorem rd_of {W : World} {sz : Nat} {v : Value} {n : Nat} {xs : List Value} (h : Rx W sz v n xs) : Rd (fun k => k < W.heap.size) W sz v n xs := ⟨h, fun h0 k hk => by
  obtain ⟨_, a, cap, e, _, _, h4⟩ := h
  obtain ⟨b, off, e2, hb, _⟩ := h4 h0
  rw [e, e2] at hk
  cases hk
  exact hb⟩
section
variable {H : Type} {enc : TypeId × Value → H} {W : World}
theorem less_of {ds rs : List (DataW H)} {y : DataW H} {n : Nat} (h : y = .slice ds rs ∨ (ds = [] ∧ y = .nil)) (hn : n = ds.length) : n < Rows.uptoBulk y := by
  rcases h with rfl | ⟨rfl, rfl⟩
  · rw [Rows.uptoBulk]
    have := bulk_len ds
    omega
  · simp at hn; subst hn; exact bulk_one _
/-- A list of things that can be read, and what is known of each by its bulk. -/
theorem list_cell {n : Nat} {c : Value} {y : DataW H × List MemPlace} {R U : Type} {en : R → List Value} {sz : Nat} (hz : ∀ x, (en x).length = sz) (hpos : 0 < sz) (t0 : R) {t te : TypeId} (hu : Tryd.prog.underlying t = some (.slice te)) (hcl : Tryd.prog.cellsOf te = sz) (P : (Nat → Prop) → World → U → R → Prop) (K : U → Nat → Prop)
    (hel : ∀ n cs y, cs.length = sz → DataW.trod enc Tryd.prog W 0 (fun _ => true) true n te cs = some y → ∃ x : R, cs = en x ∧ ∃ u : U, P (fun k => k < W.heap.size) W u x ∧ K u (Rows.uptoBulk y.1))
    (hy : DataW.trod enc Tryd.prog W 0 (fun _ => true) true n t [c] = some y) :
    ∃ (us : List U) (ds rs : List (DataW H)), NV en sz P (fun k => k < W.heap.size) W us c ∧ us.length = ds.length ∧ (y.1 = .slice ds rs ∨ (ds = [] ∧ y.1 = .nil)) ∧ ∀ (i : Nat) (u : U), us[i]? = some u → ∃ d, ds[i]? = some d ∧ K u (Rows.uptoBulk d) := by
  obtain ⟨l, ds, rs, h1, h2, h3, h4⟩ := rows_cell hz hpos t0 hu hcl (fun x d => ∃ u : U, P (fun k => k < W.heap.size) W u x ∧ K u (Rows.uptoBulk d)) hel hy
  obtain ⟨us, q1, q2⟩ := pick_row (U := U) l (fun i x u => P (fun k => k < W.heap.size) W u x ∧ ∃ d, ds[i]? = some d ∧ K u (Rows.uptoBulk d)) (fun i x hx => by
    obtain ⟨d, hd, u, hu1, hu2⟩ := h4 i x hx
    exact ⟨u, hu1, d, hd, hu2⟩)
  refine ⟨us, ds, rs, ⟨l, q1.symm, rd_of (by rw [q1]; exact h1), fun i u r hu' hr => (q2 i u r hu' hr).1⟩, by rw [q1]; exact h2, h3, fun i u hu' => ?_⟩
  have hi := (List.getElem?_eq_some_iff.1 hu').1
  exact (q2 i u _ hu' (List.getElem?_eq_getElem (by omega))).2
/-- What holds of each by its bulk holds by the whole's. -/
theorem list_all {U : Type} {K : U → Nat → Prop} (hK : ∀ u m n, m ≤ n → K u m → K u n) {us : List U} {ds rs : List (DataW H)} {d0 : DataW H} (h3 : d0 = .slice ds rs ∨ (ds = [] ∧ d0 = .nil)) (h4 : ∀ (i : Nat) (u : U), us[i]? = some u → ∃ d, ds[i]? = some d ∧ K u (Rows.uptoBulk d)) : ∀ u ∈ us, K u (Rows.uptoBulk d0) := fun u hu => by
  obtain ⟨i, hi, rfl⟩ := List.getElem_of_mem hu
  obtain ⟨d, hd, hk⟩ := h4 i _ (List.getElem?_eq_getElem hi)
  rcases h3 with e | ⟨e, _⟩
  · rw [e, Rows.uptoBulk]
    exact hK _ _ _ (by have := bulk_part (List.mem_of_getElem? hd); omega) hk
  · rw [e] at hd; simp at hd
set_option maxRecDepth 100000 in
theorem opnd_cells (n : Nat) (cs : List Value) (y : DataW H × List MemPlace) (hl : cs.length = 2) (h : DataW.trod enc Tryd.prog W 0 (fun _ => true) true n 70 cs = some y) : ∃ x : Op, cs = enO x ∧ OkO x := by
  obtain ⟨xs, q, _, rfl, _, hxl, hfs⟩ := DataW.trod_struct Tryd.underlying70 h
  match xs, hxl, cs, hl with
  | [y0, y1], _, [c0, c1], _ =>
    have g0 := hfs 0 _ rfl
    have g1 := hfs 1 _ rfl
    simp [cells3, cells2] at g0 g1
    obtain ⟨k0, e0, _, w0⟩ := DataW.trod_int Tryd.underlying3 g0
    obtain ⟨k1, e1, _, w1⟩ := DataW.trod_int Tryd.underlying2 g1
    simp at e0 e1
    subst e0 e1
    exact ⟨⟨k0, k1⟩, rfl, w0, w1⟩
theorem num_cells (n : Nat) (cs : List Value) (y : DataW H × List MemPlace) (hl : cs.length = 1) (h : DataW.trod enc Tryd.prog W 0 (fun _ => true) true n 3 cs = some y) : ∃ x : Int, cs = enI x ∧ True := by
  match cs, hl with
  | [c0], _ =>
    obtain ⟨k0, e0, _, w0⟩ := DataW.trod_int Tryd.underlying3 h
    simp at e0
    subst e0
    exact ⟨k0, rfl, trivial⟩
theorem opnds_cell {n : Nat} {c : Value} {y : DataW H × List MemPlace} (hy : DataW.trod enc Tryd.prog W 0 (fun _ => true) true n 48 [c] = some y) : ∃ l : List Op, OpV (fun k => k < W.heap.size) W l c ∧ l.length < Rows.uptoBulk y.1 ∧ ∀ o ∈ l, OkO o := by
  obtain ⟨l, ds, rs, h1, h2, h3, h4⟩ := rows_cell zO (by omega) ⟨0, 0⟩ Tryd.underlying48 cells51 (fun x _ => OkO x) opnd_cells hy
  exact ⟨l, rd_of h1, by have := less_of h3 h2; omega, fun o ho => by
    obtain ⟨i, hi, rfl⟩ := List.getElem_of_mem ho
    obtain ⟨d, _, hk⟩ := h4 i _ (List.getElem?_eq_getElem hi)
    exact hk⟩
theorem nums_cell {n : Nat} {c : Value} {y : DataW H × List MemPlace} (hy : DataW.trod enc Tryd.prog W 0 (fun _ => true) true n 25 [c] = some y) : ∃ l : List Int, NxV (fun k => k < W.heap.size) W l c ∧ l.length < Rows.uptoBulk y.1 := by
  obtain ⟨l, ds, rs, h1, h2, h3, _⟩ := rows_cell zI (by omega) 0 Tryd.underlying25 cells3 (fun _ _ => True) num_cells hy
  exact ⟨l, rd_of h1, by have := less_of h3 h2; omega⟩
def KSh (s : Sh) (n : Nat) : Prop := s.sl.length ≤ n ∧ ∀ o ∈ s.sl, OkO o
set_option maxRecDepth 100000 in
theorem shape_cells (n : Nat) (cs : List Value) (y : DataW H × List MemPlace) (hl : cs.length = 3) (h : DataW.trod enc Tryd.prog W 0 (fun _ => true) true n 73 cs = some y) : ∃ x : ShR, cs = enSh x ∧ ∃ s : Sh, ShP (fun k => k < W.heap.size) W s x ∧ KSh s (Rows.uptoBulk y.1) := by
  obtain ⟨xs, q, _, hd, _, hxl, hfs⟩ := DataW.trod_struct Tryd.underlying73 h
  have hd1 : y.1 = _ := congrArg Prod.fst hd
  match xs, hxl, cs, hl with
  | [y0, y1, y2], _, [c0, c1, c2], _ =>
    have g0 := hfs 0 _ rfl
    have g1 := hfs 1 _ rfl
    have g2 := hfs 2 _ rfl
    simp [cells3, cells42] at g0 g1 g2
    obtain ⟨k0, e0, _, w0⟩ := DataW.trod_int Tryd.underlying3 g0
    obtain ⟨k1, e1, _, w1⟩ := DataW.trod_int Tryd.underlying3 g1
    obtain ⟨l, h1, h2, h4⟩ := opnds_cell g2
    simp at e0 e1
    subst e0 e1
    refine ⟨⟨k0, k1, c2⟩, rfl, ⟨k0, k1, l⟩, ⟨rfl, rfl, h1⟩, ?_, h4⟩
    show l.length ≤ _
    rw [hd1, Rows.uptoBulk]
    have := bulk_part (by simp : y2.1 ∈ [y0, y1, y2].map (·.1))
    try simp only at this
    omega
def KIn (x : RIn) (n : Nat) : Prop := (x.args.length ≤ n ∧ 1 + x.ex.length ≤ n ∧ ∀ s ∈ x.ex, s.sl.length ≤ n) ∧ OkI x
set_option maxRecDepth 100000 in
theorem ins_cells (n : Nat) (cs : List Value) (y : DataW H × List MemPlace) (hl : cs.length = 8) (h : DataW.trod enc Tryd.prog W 0 (fun _ => true) true n 51 cs = some y) : ∃ r : InR, cs = enIn r ∧ ∃ x : RIn, InP (fun k => k < W.heap.size) W x r ∧ KIn x (Rows.uptoBulk y.1) := by
  obtain ⟨xs, q, _, hd, _, hxl, hfs⟩ := DataW.trod_struct Tryd.underlying51 h
  have hd1 : y.1 = _ := congrArg Prod.fst hd
  match xs, hxl, cs, hl with
  | [y0, y1, y2, y3, y4, y5, y6, y7], _, [c0, c1, c2, c3, c4, c5, c6, c7], _ =>
    have g0 := hfs 0 _ rfl
    have g1 := hfs 1 _ rfl
    have g2 := hfs 2 _ rfl
    have g3 := hfs 3 _ rfl
    have g4 := hfs 4 _ rfl
    have g5 := hfs 5 _ rfl
    have g6 := hfs 6 _ rfl
    have g7 := hfs 7 _ rfl
    simp [cells3, cells2, cells42, cells43] at g0 g1 g2 g3 g4 g5 g6 g7
    obtain ⟨k0, e0, _, _⟩ := DataW.trod_int Tryd.underlying3 g0
    obtain ⟨k1, e1, _, _⟩ := DataW.trod_int Tryd.underlying3 g1
    obtain ⟨k2, e2, _, w2⟩ := DataW.trod_int Tryd.underlying3 g2
    obtain ⟨k4, e4, _, _⟩ := DataW.trod_int Tryd.underlying2 g4
    obtain ⟨k5, e5, _, _⟩ := DataW.trod_int Tryd.underlying3 g5
    obtain ⟨k6, e6, _, _⟩ := DataW.trod_int Tryd.underlying3 g6
    obtain ⟨l, h1, h2, h4⟩ := opnds_cell g3
    obtain ⟨ex, ds, rs, q1, q2, q3, q4⟩ := list_cell zSh (by omega) ⟨0, 0, .slice none 0 0⟩ Tryd.underlying49 cells53 ShP KSh shape_cells g7
    have q5 := list_all (K := KSh) (fun u m n hmn hk => ⟨Nat.le_trans hk.1 hmn, hk.2⟩) q3 q4
    have q6 := less_of q3 q2
    simp at e0 e1 e2 e4 e5 e6
    subst e0 e1 e2 e4 e5 e6
    have b3 := bulk_part (by simp : y3.1 ∈ [y0, y1, y2, y3, y4, y5, y6, y7].map (·.1))
    have b7 := bulk_part (by simp : y7.1 ∈ [y0, y1, y2, y3, y4, y5, y6, y7].map (·.1))
    have hbk : Rows.uptoBulk y.1 = Rows.uptoBulkAll ([y0, y1, y2, y3, y4, y5, y6, y7].map (·.1)) + 1 := by rw [hd1, Rows.uptoBulk]
    refine ⟨⟨k0, k1, k2, c3, k4, k5, k6, c7⟩, rfl, ⟨k0, k1, k2, l, k4, k5, k6, ex⟩, ⟨rfl, rfl, rfl, rfl, rfl, rfl, h1, q1⟩, ⟨?_, ?_, fun s hs => ?_⟩, w2, h4, fun s hs => (q5 s hs).2⟩
    · show l.length ≤ _
      omega
    · show 1 + ex.length ≤ _
      omega
    · have : s.sl.length ≤ Rows.uptoBulk y7.1 := (q5 s hs).1
      omega
def KBk (b : Bk) (n : Nat) : Prop := (b.ins.length ≤ n ∧ b.nx.length ≤ n ∧ ∀ x ∈ b.ins, x.args.length ≤ n ∧ x.ex.length ≤ n ∧ ∀ s ∈ x.ex, s.sl.length ≤ n) ∧ ∀ x ∈ b.ins, OkI x
set_option maxRecDepth 100000 in
theorem blk_cells' (n : Nat) (cs : List Value) (y : DataW H × List MemPlace) (hl : cs.length = 3) (h : DataW.trod enc Tryd.prog W 0 (fun _ => true) true n 47 cs = some y) : ∃ r : BkR, cs = enBk r ∧ ∃ b : Bk, BkP (fun k => k < W.heap.size) W b r ∧ KBk b (Rows.uptoBulk y.1) := by
  obtain ⟨xs, m, _, hd, _, hxl, hfs⟩ := DataW.trod_struct Tryd.underlying47 h
  have hd1 : y.1 = _ := congrArg Prod.fst hd
  match xs, hxl, cs, hl with
  | [y0, y1, y2], _, [c0, c1, c2], _ =>
    have g0 := hfs 0 _ rfl
    have g1 := hfs 1 _ rfl
    have g2 := hfs 2 _ rfl
    simp [cells3, cells22, cells23] at g0 g1 g2
    obtain ⟨k0, e0, _, _⟩ := DataW.trod_int Tryd.underlying3 g0
    obtain ⟨ins, ds, rs, q1, q2, q3, q4⟩ := list_cell zIn (by omega) ⟨0, 0, 0, .slice none 0 0, 0, 0, 0, .slice none 0 0⟩ Tryd.underlying45 cells45 InP KIn ins_cells g1
    obtain ⟨nx, h1, h2⟩ := nums_cell g2
    simp at e0
    subst e0
    have q5 := list_all (K := KIn) (fun u m n hmn hk => ⟨⟨Nat.le_trans hk.1.1 hmn, Nat.le_trans hk.1.2.1 hmn, fun s hs => Nat.le_trans (hk.1.2.2 s hs) hmn⟩, hk.2⟩) q3 q4
    have q6 := less_of q3 q2
    have b1 := bulk_part (by simp : y1.1 ∈ [y0, y1, y2].map (·.1))
    have b2 := bulk_part (by simp : y2.1 ∈ [y0, y1, y2].map (·.1))
    have hbk : Rows.uptoBulk y.1 = Rows.uptoBulkAll ([y0, y1, y2].map (·.1)) + 1 := by rw [hd1, Rows.uptoBulk]
    refine ⟨⟨k0, c1, c2⟩, rfl, ⟨k0, ins, nx⟩, ⟨rfl, q1, h1⟩, ⟨?_, ?_, fun x hx => ?_⟩, fun x hx => (q5 x hx).2⟩
    · show ins.length ≤ _
      omega
    · show nx.length ≤ _
      omega
    · obtain ⟨⟨r1, r2, r3⟩, _⟩ := q5 x hx
      exact ⟨by omega, by omega, fun s hs => by have := r3 s hs; omega⟩
/-- A code that came in. -/
def CoI (W : World) (v : Value) : Prop :=
  ∃ (fn regs : Int) (bl : List Bk) (bv : Value), v = .agg #[.int .i64 fn, .int .i64 regs, bv] ∧ BksV (fun k => k < W.heap.size) W bl bv ∧ bl.length ≤ 1048576 ∧ ∀ b ∈ bl, OkB b
set_option maxRecDepth 100000 in
theorem inC {base : Nat} {v : Value} {d : DataW H} {p : List MemPlace} (hv : Value.okWide Tryd.prog W .any base 24 v) (h : DataW.Trod enc Tryd.prog W 0 (fun _ => true) true 24 v d p) (hb : Rows.uptoBulk d ≤ 1048576) : CoI W v := by
  obtain ⟨fuel, hf⟩ := h
  obtain ⟨cs, rfl, hcs⟩ := okWide_struct Tryd.underlying24 hv
  rw [cellsC] at hcs
  obtain ⟨cl⟩ := cs
  simp only [Value.cells] at hf
  obtain ⟨xs, m, _, hd, _, hxl, hfs⟩ := DataW.trod_struct Tryd.underlying24 hf
  have hd1 := ((Prod.mk.injEq _ _ _ _).mp hd).1
  match xs, hxl, cl, hcs with
  | [y0, y1, y2], _, [c0, c1, c2], _ =>
    have g0 := hfs 0 _ rfl
    have g1 := hfs 1 _ rfl
    have g2 := hfs 2 _ rfl
    simp [cells3, cellsB] at g0 g1 g2
    obtain ⟨k0, e0, _, _⟩ := DataW.trod_int Tryd.underlying3 g0
    obtain ⟨k1, e1, _, _⟩ := DataW.trod_int Tryd.underlying3 g1
    obtain ⟨bl, ds, rs, q1, q2, q3, q4⟩ := list_cell zBk (by omega) ⟨0, .slice none 0 0, .slice none 0 0⟩ Tryd.underlying22 cells25 BkP KBk blk_cells' g2
    simp at e0 e1
    subst e0 e1
    have q5 := list_all (K := KBk) (fun u m n hmn hk => ⟨⟨Nat.le_trans hk.1.1 hmn, Nat.le_trans hk.1.2.1 hmn, fun x hx => ⟨Nat.le_trans (hk.1.2.2 x hx).1 hmn, Nat.le_trans (hk.1.2.2 x hx).2.1 hmn, fun s hs => Nat.le_trans ((hk.1.2.2 x hx).2.2 s hs) hmn⟩⟩, hk.2⟩) q3 q4
    have q6 := less_of q3 q2
    have b2 := bulk_part (by simp : y2.1 ∈ [y0, y1, y2].map (·.1))
    rw [hd1, Rows.uptoBulk] at hb
    refine ⟨k0, k1, bl, c2, rfl, q1, by omega, fun b hb' => ?_⟩
    obtain ⟨⟨r1, r2, r3⟩, r4⟩ := q5 b hb'
    exact ⟨r4, by omega, by omega, fun x hx => ⟨by have := (r3 x hx).1; omega, by have := (r3 x hx).2.1; omega, fun s hs => by have := (r3 x hx).2.2 s hs; omega⟩⟩
end

set_option linter.unusedVariables false
section
variable {H : Type} {enc : TypeId × Value → H} {W : World}
/-- A sum over a list, by its bulk. -/
theorem sum_bulk {U : Type} (f : U → Nat) : ∀ (us : List U) (ds : List (DataW H)), us.length = ds.length → (∀ (i : Nat) (u : U), us[i]? = some u → ∃ d, ds[i]? = some d ∧ f u ≤ Rows.uptoBulk d) → (us.map f).sum ≤ Rows.uptoBulkAll ds
  | [], _, _, _ => by simp
  | u :: r, [], h, _ => by simp at h
  | u :: r, d :: q, h, k => by
    obtain ⟨d', hd, hk⟩ := k 0 u rfl
    simp at hd
    subst hd
    have := sum_bulk f r q (by simpa using h) (fun i x hx => by
      obtain ⟨e, he, h2⟩ := k (i + 1) x (by simpa using hx)
      exact ⟨e, by simpa using he, h2⟩)
    rw [Rows.uptoBulkAll]
    simp only [List.map_cons, List.sum_cons] at this ⊢
    omega
theorem bulk_all {ds rs : List (DataW H)} {y : DataW H} (h : y = .slice ds rs ∨ (ds = [] ∧ y = .nil)) : Rows.uptoBulkAll ds ≤ Rows.uptoBulk y := by
  rcases h with rfl | ⟨rfl, rfl⟩
  · rw [Rows.uptoBulk]; omega
  · rw [Rows.uptoBulkAll]; exact Nat.zero_le _
def KBk2 (b : Bk) (n : Nat) : Prop := KBk b n ∧ inW b.ins ≤ n
set_option maxRecDepth 100000 in
theorem blk_cells2 (n : Nat) (cs : List Value) (y : DataW H × List MemPlace) (hl : cs.length = 3) (h : DataW.trod enc Tryd.prog W 0 (fun _ => true) true n 47 cs = some y) : ∃ r : BkR, cs = enBk r ∧ ∃ b : Bk, BkP (fun k => k < W.heap.size) W b r ∧ KBk2 b (Rows.uptoBulk y.1) := by
  obtain ⟨xs, m, _, hd, _, hxl, hfs⟩ := DataW.trod_struct Tryd.underlying47 h
  have hd1 : y.1 = _ := congrArg Prod.fst hd
  match xs, hxl, cs, hl with
  | [y0, y1, y2], _, [c0, c1, c2], _ =>
    have g0 := hfs 0 _ rfl
    have g1 := hfs 1 _ rfl
    have g2 := hfs 2 _ rfl
    simp [cells3, cells22, cells23] at g0 g1 g2
    obtain ⟨k0, e0, _, _⟩ := DataW.trod_int Tryd.underlying3 g0
    obtain ⟨ins, ds, rs, q1, q2, q3, q4⟩ := list_cell zIn (by omega) ⟨0, 0, 0, .slice none 0 0, 0, 0, 0, .slice none 0 0⟩ Tryd.underlying45 cells45 InP KIn ins_cells g1
    obtain ⟨nx, h1, h2⟩ := nums_cell g2
    simp at e0
    subst e0
    have q5 := list_all (K := KIn) (fun u m n hmn hk => ⟨⟨Nat.le_trans hk.1.1 hmn, Nat.le_trans hk.1.2.1 hmn, fun s hs => Nat.le_trans (hk.1.2.2 s hs) hmn⟩, hk.2⟩) q3 q4
    have q6 := less_of q3 q2
    have q7 := sum_bulk (fun x : RIn => 1 + x.ex.length) ins ds q2 (fun i u hu => by
      obtain ⟨d, hd, hk⟩ := q4 i u hu
      exact ⟨d, hd, hk.1.2.1⟩)
    have q8 := bulk_all q3
    have b1 := bulk_part (by simp : y1.1 ∈ [y0, y1, y2].map (·.1))
    have b2 := bulk_part (by simp : y2.1 ∈ [y0, y1, y2].map (·.1))
    have hbk : Rows.uptoBulk y.1 = Rows.uptoBulkAll ([y0, y1, y2].map (·.1)) + 1 := by rw [hd1, Rows.uptoBulk]
    refine ⟨⟨k0, c1, c2⟩, rfl, ⟨k0, ins, nx⟩, ⟨rfl, q1, h1⟩, ⟨⟨?_, ?_, fun x hx => ?_⟩, fun x hx => (q5 x hx).2⟩, ?_⟩
    · show ins.length ≤ _
      omega
    · show nx.length ≤ _
      omega
    · obtain ⟨⟨r1, r2, r3⟩, _⟩ := q5 x hx
      exact ⟨by omega, by omega, fun s hs => by have := r3 s hs; omega⟩
    · have q9 : inW ins ≤ Rows.uptoBulkAll ds := q7
      show inW ins ≤ _
      omega
/-- A code that came in. -/
def CoI2 (W : World) (v : Value) : Prop :=
  ∃ (fn regs : Int) (bl : List Bk) (bv : Value), v = .agg #[.int .i64 fn, .int .i64 regs, bv] ∧ BksV (fun k => k < W.heap.size) W bl bv ∧ bl.length ≤ 1048576 ∧ (∀ b ∈ bl, OkB b) ∧ bkW bl ≤ 1048576
set_option maxRecDepth 100000 in
theorem inC2 {base : Nat} {v : Value} {d : DataW H} {p : List MemPlace} (hv : Value.okWide Tryd.prog W .any base 24 v) (h : DataW.Trod enc Tryd.prog W 0 (fun _ => true) true 24 v d p) (hb : Rows.uptoBulk d ≤ 1048576) : CoI2 W v := by
  obtain ⟨fuel, hf⟩ := h
  obtain ⟨cs, rfl, hcs⟩ := okWide_struct Tryd.underlying24 hv
  rw [cellsC] at hcs
  obtain ⟨cl⟩ := cs
  simp only [Value.cells] at hf
  obtain ⟨xs, m, _, hd, _, hxl, hfs⟩ := DataW.trod_struct Tryd.underlying24 hf
  have hd1 := ((Prod.mk.injEq _ _ _ _).mp hd).1
  match xs, hxl, cl, hcs with
  | [y0, y1, y2], _, [c0, c1, c2], _ =>
    have g0 := hfs 0 _ rfl
    have g1 := hfs 1 _ rfl
    have g2 := hfs 2 _ rfl
    simp [cells3, cellsB] at g0 g1 g2
    obtain ⟨k0, e0, _, _⟩ := DataW.trod_int Tryd.underlying3 g0
    obtain ⟨k1, e1, _, _⟩ := DataW.trod_int Tryd.underlying3 g1
    obtain ⟨bl, ds, rs, q1, q2, q3, q4⟩ := list_cell zBk (by omega) ⟨0, .slice none 0 0, .slice none 0 0⟩ Tryd.underlying22 cells25 BkP KBk2 blk_cells2 g2
    simp at e0 e1
    subst e0 e1
    have q5 := list_all (K := KBk) (fun u m n hmn hk => ⟨⟨Nat.le_trans hk.1.1 hmn, Nat.le_trans hk.1.2.1 hmn, fun x hx => ⟨Nat.le_trans (hk.1.2.2 x hx).1 hmn, Nat.le_trans (hk.1.2.2 x hx).2.1 hmn, fun s hs => Nat.le_trans ((hk.1.2.2 x hx).2.2 s hs) hmn⟩⟩, hk.2⟩) q3 (fun i u hu => by
      obtain ⟨d, hd, hk⟩ := q4 i u hu
      exact ⟨d, hd, hk.1⟩)
    have q6 := less_of q3 q2
    have q7 := sum_bulk (fun b : Bk => inW b.ins) bl ds q2 (fun i u hu => by
      obtain ⟨d, hd, hk⟩ := q4 i u hu
      exact ⟨d, hd, hk.2⟩)
    have q8 := bulk_all q3
    have b2 := bulk_part (by simp : y2.1 ∈ [y0, y1, y2].map (·.1))
    rw [hd1, Rows.uptoBulk] at hb
    have q9 : bkW bl ≤ Rows.uptoBulkAll ds := q7
    refine ⟨k0, k1, bl, c2, rfl, q1, by omega, fun b hb' => ?_, by omega⟩
    obtain ⟨⟨r1, r2, r3⟩, r4⟩ := q5 b hb'
    exact ⟨r4, by omega, by omega, fun x hx => ⟨by have := (r3 x hx).1; omega, by have := (r3 x hx).2.1; omega, fun s hs => by have := (r3 x hx).2.2 s hs; omega⟩⟩
end
end Go.Proofs.YtpbdmbmafjkinaaDoor.into
