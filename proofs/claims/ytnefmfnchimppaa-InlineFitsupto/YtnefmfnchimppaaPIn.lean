/-
  A program that came in.
-/
import Derived.Test.YtnefmfnchimppaaRows
import Derived.Test.YtnefmfnchimppaaPRow
import Derived.ProofKit
import Derived.OpenShut
import Derived.ShutString
import Derived.ChangeOld
import Derived.SizedLaws
import Derived.SliceStrings
import Derived.Lib.SmallJoins
namespace Go.Proofs.Ytnefmfnchimppaa.into
open Go.ChangeShapes Go.WideShapes Go.ChangeAt Go.RowKit Go.Joins
set_option linter.unusedVariables false

theorem own : ownKnob Try.prog.godebug = none := by kernel_rfl
theorem laidOut : laidOutB Try.prog = true := by kernel_rfl
theorem cells3 : Try.prog.cellsOf 3 = 1 := by kernel_rfl
theorem cells2 : Try.prog.cellsOf 2 = 1 := by kernel_rfl
theorem cells9 : Try.prog.cellsOf 9 = 1 := by kernel_rfl
theorem cellsI : Try.prog.cellsOf 38 = 2 := by kernel_rfl
theorem cellsH : Try.prog.cellsOf 43 = 4 := by kernel_rfl
theorem cellsC : Try.prog.cellsOf 30 = 3 := by kernel_rfl
theorem cellsF : Try.prog.cellsOf 34 = 5 := by kernel_rfl
theorem cellsIs : Try.prog.cellsOf 31 = 1 := by kernel_rfl
theorem cellsHs : Try.prog.cellsOf 32 = 1 := by kernel_rfl
theorem cellsCs : Try.prog.cellsOf 22 = 1 := by kernel_rfl
theorem cellsFs : Try.prog.cellsOf 23 = 1 := by kernel_rfl
theorem cellsP : Try.prog.cellsOf 25 = 2 := by kernel_rfl
theorem spot_none {w : World} {a : Addr} {v : Value} (h : w.cell? a = some v) : a.spot = none := by
  unfold World.cell? at h
  cases e : a.spot with
  | none => rfl
  | some s => simp [e] at h <;> (split at h <;> simp at h)
theorem add_zero' (a : Addr) : a.add 0 = a := by unfold Addr.add; rw [if_pos rfl]
theorem bulk_one {H : Type} (d : DataW H) : 1 ≤ Rows.uptoBulk d := by
  unfold Rows.uptoBulk
  split <;> omega
theorem bulk_len {H : Type} : ∀ l : List (DataW H), l.length ≤ Rows.uptoBulkAll l
  | [] => Nat.zero_le _
  | d :: r => by
    have h1 := bulk_one d
    have h2 := bulk_len r
    rw [Rows.uptoBulkAll, List.length_cons]
    omega
theorem bulk_part {H : Type} : ∀ {l : List (DataW H)} {d : DataW H}, d ∈ l → Rows.uptoBulk d ≤ Rows.uptoBulkAll l
  | d0 :: l, d, h => by
    rw [Rows.uptoBulkAll]
    rcases List.mem_cons.1 h with rfl | h
    · omega
    · have := bulk_part h; omega
/-- A list of things, out of its one cell. -/
theorem rows_cell {H : Type} {enc : TypeId × Value → H} {W : World} {n : Nat} {c : Value} {y : DataW H × List MemPlace} {T : Type} {en : T → List Value} {sz : Nat} (hz : ∀ x, (en x).length = sz) (hpos : 0 < sz) (t0 : T) {t te : TypeId} (hu : Try.prog.underlying t = some (.slice te)) (hcl : Try.prog.cellsOf te = sz) (G : T → DataW H → Prop)
    (hel : ∀ n cs y, cs.length = sz → DataW.trod enc Try.prog W 0 (fun _ => true) true n te cs = some y → ∃ x : T, cs = en x ∧ G x y.1)
    (hy : DataW.trod enc Try.prog W 0 (fun _ => true) true n t [c] = some y) :
    ∃ (l : List T) (ds rs : List (DataW H)), Rx W sz c l.length (flt en l) ∧ l.length = ds.length ∧ (y.1 = .slice ds rs ∨ (ds = [] ∧ y.1 = .nil)) ∧ ∀ (i : Nat) (x : T), l[i]? = some x → ∃ d, ds[i]? = some d ∧ G x d := by
  rcases DataW.trod_slice hu hy with ⟨hcs, hd⟩ | ⟨a, len, cap, elems, rest, m, _, hcs, hd, _, hl, hm, hlen, hel2, _, _⟩
  · simp at hcs
    subst hcs
    exact ⟨[], [], [], by simpa [flt] using Rx.nil W sz, rfl, .inr ⟨rfl, by rw [hd]⟩, fun i x hx => by simp at hx⟩
  · simp at hcs
    subst hcs
    rw [hcl] at hel2
    have hd1 : y.1 = _ := congrArg Prod.fst hd
    have hex : ∀ i, ∃ x : T, i < len → (∃ d, (elems.map (·.1))[i]? = some d ∧ G x d) ∧ W.cells? 0 (a.add (i * sz)) sz = some (en x) := fun i => by
      by_cases hi : i < len
      · have hi' : i < elems.length := by omega
        have hb := (hel2 i hi).trans (List.getElem?_eq_getElem hi')
        rw [Option.bind_eq_some_iff] at hb
        obtain ⟨cs, hcs, hyy⟩ := hb
        obtain ⟨_, hl2, _⟩ := World.cells?_some hcs
        obtain ⟨x, ex, hg⟩ := hel m cs _ hl2 hyy
        exact ⟨x, fun _ => ⟨⟨_, by rw [List.getElem?_map, List.getElem?_eq_getElem hi']; rfl, hg⟩, by rw [← ex]; exact hcs⟩⟩
      · exact ⟨t0, fun h => absurd h hi⟩
    obtain ⟨f, hf⟩ := Classical.axiomOfChoice hex
    have hll : ((List.range len).map f).length = len := by simp
    refine ⟨(List.range len).map f, elems.map (·.1), rest.map (·.1), ⟨flt_length hz _, some a, cap, by rw [hll], by rw [hll]; exact hl, hm, fun h0 => ?_⟩, by simp [hlen], .inl hd1, fun i x hx => ?_⟩
    · rw [hll] at h0 ⊢
      obtain ⟨_, hc0⟩ := hf 0 h0
      obtain ⟨_, hl0, hcell0⟩ := World.cells?_some hc0
      have z0 := hcell0 0 hpos
      rw [Nat.zero_mul, add_zero', add_zero'] at z0
      obtain ⟨v0, hv0⟩ : ∃ v, (en (f 0))[0]? = some v := ⟨_, List.getElem?_eq_getElem (by rw [hz]; exact hpos)⟩
      have z1 : W.cell? a = some v0 := by rw [← hv0]; exact z0
      have hs := spot_none z1
      obtain ⟨b, off, spot⟩ := a
      simp at hs
      subst hs
      refine ⟨b, off, rfl, World.block_lt_of_cell? _ _ z1, fun j hj => ?_⟩
      have hq : j / sz < len := Nat.div_lt_of_lt_mul (by rw [Nat.mul_comm]; exact hj)
      have hr : j % sz < sz := Nat.mod_lt _ hpos
      have ej : j = j / sz * sz + j % sz := by rw [Nat.mul_comm]; exact (Nat.div_add_mod j sz).symm
      obtain ⟨_, hcj⟩ := hf (j / sz) hq
      obtain ⟨_, hlj, hcellj⟩ := World.cells?_some hcj
      have hc := hcellj (j % sz) hr
      rw [Go.WideShapes.add_plain, Go.WideShapes.add_plain] at hc
      rw [ej, flt_at hz (p := f (j / sz)) (by simp [hq]) (j % sz) hr, ← Nat.add_assoc]
      exact hc
    · have hi : i < len := by
        have := (List.getElem?_eq_some_iff.1 hx).1
        simpa using this
      have e : x = f i := by simp [hi] at hx; exact hx.symm
      rw [e]
      exact (hf i hi).1
def I64' (k : Int) : Prop := -9223372036854775808 ≤ k ∧ k < 9223372036854775808
def okI (p : Int × Int) : Prop := I64' p.1 ∧ I64' p.2
def okC (c : Cn) : Prop := I64' c.kind ∧ I64' c.n ∧ c.text.size ≤ maxLen
def okH (h : Hd) : Prop := I64' h.frm ∧ I64' h.to ∧ I64' h.target ∧ I64' h.height
theorem i64_of {k : Int} (h : (Lit.int .i64 k).wf = true) : I64' k := by
  obtain ⟨l, u⟩ := bounds_i64 h
  exact ⟨by omega, by omega⟩
section
variable {H : Type} {enc : TypeId × Value → H} {W : World}
set_option maxRecDepth 100000 in
theorem instr_cells (n : Nat) (cs : List Value) (y : DataW H × List MemPlace) (hl : cs.length = 2) (h : DataW.trod enc Try.prog W 0 (fun _ => true) true n 38 cs = some y) : ∃ x : Int × Int, cs = enI x ∧ okI x := by
  obtain ⟨xs, q, _, rfl, _, hxl, hfs⟩ := DataW.trod_struct Try.underlying38 h
  match xs, hxl, cs, hl with
  | [y0, y1], _, [c0, c1], _ =>
    have g0 := hfs 0 _ rfl
    have g1 := hfs 1 _ rfl
    simp [cells3, cells2] at g0 g1
    obtain ⟨k, e0, rfl, wk⟩ := DataW.trod_int Try.underlying3 g0
    obtain ⟨m, e1, rfl, wm⟩ := DataW.trod_int Try.underlying2 g1
    simp at e0 e1
    subst e0 e1
    exact ⟨(k, m), rfl, i64_of wk, i64_of wm⟩
set_option maxRecDepth 100000 in
theorem han_cells (n : Nat) (cs : List Value) (y : DataW H × List MemPlace) (hl : cs.length = 4) (h : DataW.trod enc Try.prog W 0 (fun _ => true) true n 43 cs = some y) : ∃ x : Hd, cs = enH x ∧ okH x := by
  obtain ⟨xs, q, _, rfl, _, hxl, hfs⟩ := DataW.trod_struct Try.underlying43 h
  match xs, hxl, cs, hl with
  | [y0, y1, y2, y3], _, [c0, c1, c2, c3], _ =>
    have g0 := hfs 0 _ rfl
    have g1 := hfs 1 _ rfl
    have g2 := hfs 2 _ rfl
    have g3 := hfs 3 _ rfl
    simp [cells3] at g0 g1 g2 g3
    obtain ⟨k, e0, rfl, wk⟩ := DataW.trod_int Try.underlying3 g0
    obtain ⟨m, e1, rfl, wm⟩ := DataW.trod_int Try.underlying3 g1
    obtain ⟨o, e2, rfl, wo⟩ := DataW.trod_int Try.underlying3 g2
    obtain ⟨r, e3, rfl, wr⟩ := DataW.trod_int Try.underlying3 g3
    simp at e0 e1 e2 e3
    subst e0 e1 e2 e3
    exact ⟨⟨k, m, o, r⟩, rfl, i64_of wk, i64_of wm, i64_of wo, i64_of wr⟩
set_option maxRecDepth 100000 in
theorem con_cells (n : Nat) (cs : List Value) (y : DataW H × List MemPlace) (hl : cs.length = 3) (h : DataW.trod enc Try.prog W 0 (fun _ => true) true n 30 cs = some y) : ∃ x : Cn, cs = enC x ∧ okC x := by
  obtain ⟨xs, q, _, rfl, _, hxl, hfs⟩ := DataW.trod_struct Try.underlying30 h
  match xs, hxl, cs, hl with
  | [y0, y1, y2], _, [c0, c1, c2], _ =>
    have g0 := hfs 0 _ rfl
    have g1 := hfs 1 _ rfl
    have g2 := hfs 2 _ rfl
    simp [cells3, cells2, cells9] at g0 g1 g2
    obtain ⟨k, e0, rfl, wk⟩ := DataW.trod_int Try.underlying3 g0
    obtain ⟨m, e1, rfl, wm⟩ := DataW.trod_int Try.underlying2 g1
    obtain ⟨t, e2, rfl, wt⟩ := DataW.trod_string Try.underlying9 g2
    simp at e0 e1 e2
    subst e0 e1 e2
    exact ⟨⟨k, m, t⟩, rfl, i64_of wk, i64_of wm, wt⟩
/-- A function, out of its five cells. -/
def GF (H : Type) (W : World) (x : Fv) (d : DataW H) : Prop := ∃ f : Fc, FnV W f x ∧ f.code.length ≤ Rows.uptoBulk d ∧ f.hs.length ≤ Rows.uptoBulk d ∧ f.name.size ≤ maxLen ∧ I64' f.params ∧ I64' f.locals ∧ (∀ p ∈ f.code, okI p) ∧ ∀ h ∈ f.hs, okH h
theorem short_of {ds rs : List (DataW H)} {y : DataW H} {n : Nat} (h : y = .slice ds rs ∨ (ds = [] ∧ y = .nil)) (hn : n = ds.length) : n ≤ Rows.uptoBulk y := by
  rcases h with rfl | ⟨rfl, rfl⟩
  · rw [Rows.uptoBulk]
    have := bulk_len ds
    omega
  · simp at hn; omega
set_option maxRecDepth 100000 in
theorem fun_cells (n : Nat) (cs : List Value) (y : DataW H × List MemPlace) (hl : cs.length = 5) (h : DataW.trod enc Try.prog W 0 (fun _ => true) true n 34 cs = some y) : ∃ x : Fv, cs = enF x ∧ GF H W x y.1 := by
  obtain ⟨xs, q, _, hd, _, hxl, hfs⟩ := DataW.trod_struct Try.underlying34 h
  have hd1 : y.1 = _ := congrArg Prod.fst hd
  match xs, hxl, cs, hl with
  | [y0, y1, y2, y3, y4], _, [c0, c1, c2, c3, c4], _ =>
    have g0 := hfs 0 _ rfl
    have g1 := hfs 1 _ rfl
    have g2 := hfs 2 _ rfl
    have g3 := hfs 3 _ rfl
    have g4 := hfs 4 _ rfl
    simp [cells3, cells9, cellsIs, cellsHs] at g0 g1 g2 g3 g4
    obtain ⟨t, e0, _, wt⟩ := DataW.trod_string Try.underlying9 g0
    obtain ⟨k, e1, _, wk⟩ := DataW.trod_int Try.underlying3 g1
    obtain ⟨m, e2, _, wm⟩ := DataW.trod_int Try.underlying3 g2
    simp at e0 e1 e2
    subst e0 e1 e2
    obtain ⟨l3, d3, r3, x3, n3, s3, o3⟩ := rows_cell zI (by omega) ((0 : Int), (0 : Int)) Try.underlying31 cellsI (fun p _ => okI p) instr_cells g3
    obtain ⟨l4, d4, r4, x4, n4, s4, o4⟩ := rows_cell zH (by omega) (⟨0, 0, 0, 0⟩ : Hd) Try.underlying32 cellsH (fun p _ => okH p) han_cells g4
    have bs : ∀ z ∈ [y0, y1, y2, y3, y4], Rows.uptoBulk z.1 ≤ Rows.uptoBulk y.1 := fun z hz => by
      rw [hd1, Rows.uptoBulk]
      have := bulk_part (List.mem_map.2 ⟨z, hz, rfl⟩ : z.1 ∈ [y0, y1, y2, y3, y4].map (·.1))
      omega
    refine ⟨⟨t, k, m, c3, c4⟩, rfl, ⟨t, k, m, l3, l4⟩, ⟨rfl, rfl, rfl, x3, x4⟩, Nat.le_trans (short_of s3 n3) (bs y3 (by simp)), Nat.le_trans (short_of s4 n4) (bs y4 (by simp)), wt, i64_of wk, i64_of wm, fun p hp => ?_, fun p hp => ?_⟩
    · obtain ⟨i, hi, rfl⟩ := List.getElem_of_mem hp
      obtain ⟨_, _, h⟩ := o3 i _ (List.getElem?_eq_getElem hi)
      exact h
    · obtain ⟨i, hi, rfl⟩ := List.getElem_of_mem hp
      obtain ⟨_, _, h⟩ := o4 i _ (List.getElem?_eq_getElem hi)
      exact h
def okF (f : Fc) : Prop := f.code.length ≤ 1048576 ∧ f.hs.length ≤ 1048576 ∧ f.name.size ≤ maxLen ∧ I64' f.params ∧ I64' f.locals ∧ (∀ p ∈ f.code, okI p) ∧ ∀ h ∈ f.hs, okH h
set_option maxRecDepth 100000 in
/-- A program that came in. -/
theorem inP {base : Nat} {v : Value} {d : DataW H} {p : List MemPlace} (hv : Value.okWide Try.prog W .any base 25 v) (h : DataW.Trod enc Try.prog W 0 (fun _ => true) true 25 v d p) (hb : Rows.uptoBulk d ≤ 1048576) :
    ∃ g : Pg, PgV W v g ∧ g.funcs.length ≤ 1048576 ∧ g.consts.length ≤ 1048576 ∧ (∀ (i : Nat) (f : Fc), g.funcs[i]? = some f → okF f) ∧ ∀ c ∈ g.consts, okC c := by
  obtain ⟨fuel, hf⟩ := h
  obtain ⟨cs, rfl, hcs⟩ := okWide_struct Try.underlying25 hv
  rw [cellsP] at hcs
  obtain ⟨cl⟩ := cs
  simp only [Value.cells] at hf
  obtain ⟨xs, m, _, hd, _, hxl, hfs⟩ := DataW.trod_struct Try.underlying25 hf
  have hd1 := ((Prod.mk.injEq _ _ _ _).mp hd).1
  match xs, hxl, cl, hcs with
  | [y0, y1], _, [c0, c1], _ =>
    have g0 := hfs 0 _ rfl
    have g1 := hfs 1 _ rfl
    simp [cellsCs, cellsFs] at g0 g1
    have bs : ∀ z ∈ [y0, y1], Rows.uptoBulk z.1 ≤ 1048576 := fun z hz => by
      rw [hd1, Rows.uptoBulk] at hb
      have := bulk_part (List.mem_map.2 ⟨z, hz, rfl⟩ : z.1 ∈ [y0, y1].map (·.1))
      omega
    obtain ⟨l0, d0, r0, x0, n0, s0, o0⟩ := rows_cell zC (by omega) (⟨0, 0, ByteArray.empty⟩ : Cn) Try.underlying22 cellsC (fun p _ => okC p) con_cells g0
    obtain ⟨l1, d1, r1, x1, n1, s1, o1⟩ := rows_cell zF (by omega) (⟨ByteArray.empty, 0, 0, .slice none 0 0, .slice none 0 0⟩ : Fv) Try.underlying23 cellsF (GF H W) fun_cells g1
    have hex : ∀ i, ∃ f : Fc, i < l1.length → ∃ x, l1[i]? = some x ∧ FnV W f x ∧ okF f := fun i => by
      by_cases hi : i < l1.length
      · obtain ⟨dd, hdd, f, hf, b1, b2, rest⟩ := o1 i _ (List.getElem?_eq_getElem hi)
        have hbd : Rows.uptoBulk dd ≤ 1048576 := by
          have h1 := bs y1 (by simp)
          rcases s1 with e | ⟨e, _⟩
          · rw [e, Rows.uptoBulk] at h1
            have := bulk_part (List.mem_of_getElem? hdd)
            omega
          · rw [e] at hdd; simp at hdd
        exact ⟨f, fun _ => ⟨_, List.getElem?_eq_getElem hi, hf, by omega, by omega, rest⟩⟩
      · exact ⟨⟨ByteArray.empty, 0, 0, [], []⟩, fun h => absurd h hi⟩
    obtain ⟨F, hF⟩ := Classical.axiomOfChoice hex
    have hlen : ((List.range l1.length).map F).length = l1.length := by simp
    have hat : ∀ (i : Nat) (f : Fc), ((List.range l1.length).map F)[i]? = some f → i < l1.length ∧ f = F i := fun i f hf => by
      have hi : i < l1.length := by have := (List.getElem?_eq_some_iff.1 hf).1; simpa using this
      exact ⟨hi, by simp [hi] at hf; exact hf.symm⟩
    refine ⟨⟨l0, (List.range l1.length).map F⟩, ⟨c0, c1, rfl, x0, l1, hlen.symm, x1, fun i f x hf hx => ?_⟩, ?_, Nat.le_trans (short_of s0 n0) (bs y0 (by simp)), fun i f hf => ?_, fun c hc => ?_⟩
    · obtain ⟨hi, rfl⟩ := hat i f hf
      obtain ⟨x', hx', h1, _⟩ := hF i hi
      rw [hx] at hx'
      cases hx'
      exact h1
    · show ((List.range l1.length).map F).length ≤ 1048576
      rw [hlen]
      exact Nat.le_trans (short_of s1 n1) (bs y1 (by simp))
    · obtain ⟨hi, rfl⟩ := hat i f hf
      obtain ⟨_, _, _, h⟩ := hF i hi
      exact h
    · obtain ⟨i, hi, rfl⟩ := List.getElem_of_mem hc
      obtain ⟨_, _, h⟩ := o0 i _ (List.getElem?_eq_getElem hi)
      exact h
end
end Go.Proofs.Ytnefmfnchimppaa.into
