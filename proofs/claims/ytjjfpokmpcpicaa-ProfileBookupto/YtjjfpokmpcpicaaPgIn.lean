/-
  A program by its lengths, and notes, that came in.
-/
import Derived.Test.YtjjfpokmpcpicaaPfIn
import Derived.Test.YtjjfpokmpcpicaaBkW
namespace Go.Proofs.Ytjjfpokmpcpicaa.into
open Go.ChangeShapes Go.WideShapes Go.ChangeAt Go.RowKit Go.Joins
set_option linter.unusedVariables false
theorem ci9 : Try.prog.cellsOf 9 = 1 := by kernel_rfl
theorem ci4 : Try.prog.cellsOf 4 = 1 := by kernel_rfl
theorem ci80 : Try.prog.cellsOf 60 = 1 := by kernel_rfl
theorem ci81 : Try.prog.cellsOf 61 = 1 := by kernel_rfl
theorem ci38 : Try.prog.cellsOf 22 = 1 := by kernel_rfl
theorem ci39 : Try.prog.cellsOf 23 = 1 := by kernel_rfl
theorem ci41 : Try.prog.cellsOf 25 = 2 := by kernel_rfl
theorem ci83 : Try.prog.cellsOf 63 = 5 := by kernel_rfl
theorem ci47 : Try.prog.cellsOf 36 = 1 := by kernel_rfl
theorem ci49 : Try.prog.cellsOf 38 = 6 := by kernel_rfl
theorem ci59 : Try.prog.cellsOf 85 = 2 := by kernel_rfl
section
variable {H : Type} {enc : TypeId × Value → H} {W : World}
theorem head_cell {n : Nat} {c : Value} {y : DataW H × List MemPlace} {t te : TypeId} (hu : Try.prog.underlying t = some (.slice te)) (hy : DataW.trod enc Try.prog W 0 (fun _ => true) true n t [c] = some y) : ∃ a len cap, c = .slice a len cap ∧ len ≤ Rows.uptoBulk y.1 := by
  rcases DataW.trod_slice hu hy with ⟨hcs, hd⟩ | ⟨a, len, cap, elems, rest, m, _, hcs, hd, _, hl, hm, hlen, hel2, _, _⟩
  · simp at hcs
    subst hcs
    exact ⟨none, 0, 0, rfl, Nat.zero_le _⟩
  · simp at hcs
    subst hcs
    have hd1 : y.1 = _ := congrArg Prod.fst hd
    refine ⟨some a, len, cap, rfl, ?_⟩
    rw [hd1, Rows.uptoBulk]
    have := bulk_len (elems.map (·.1))
    rw [List.length_map] at this
    omega
def GFl (H : Type) (x : Fv) (d : DataW H) : Prop := ∃ a n c ha hn hc, x.cv = .slice a n c ∧ x.hv = .slice ha hn hc ∧ n ≤ Rows.uptoBulk d
set_option maxRecDepth 100000 in
theorem funL_cells (n : Nat) (cs : List Value) (y : DataW H × List MemPlace) (hl : cs.length = 5) (h : DataW.trod enc Try.prog W 0 (fun _ => true) true n 63 cs = some y) : ∃ x : Fv, cs = enF x ∧ GFl H x y.1 := by
  obtain ⟨xs, q, _, hd, _, hxl, hfs⟩ := DataW.trod_struct Try.underlying63 h
  have hd1 : y.1 = _ := congrArg Prod.fst hd
  match xs, hxl, cs, hl with
  | [y0, y1, y2, y3, y4], _, [c0, c1, c2, c3, c4], _ =>
    have g0 := hfs 0 _ rfl
    have g1 := hfs 1 _ rfl
    have g2 := hfs 2 _ rfl
    have g3 := hfs 3 _ rfl
    have g4 := hfs 4 _ rfl
    simp [cells3, ci9, ci80, ci81] at g0 g1 g2 g3 g4
    obtain ⟨t, e0, _, wt⟩ := DataW.trod_string Try.underlying9 g0
    obtain ⟨k, e1, _, wk⟩ := DataW.trod_int Try.underlying3 g1
    obtain ⟨m, e2, _, wm⟩ := DataW.trod_int Try.underlying3 g2
    simp at e0 e1 e2
    subst e0 e1 e2
    obtain ⟨a, n3, c, rfl, b3⟩ := head_cell Try.underlying60 g3
    obtain ⟨ha, n4, hc, rfl, b4⟩ := head_cell Try.underlying61 g4
    have bs : Rows.uptoBulk y3.1 ≤ Rows.uptoBulk y.1 := by
      rw [hd1, Rows.uptoBulk]
      have := bulk_part (List.mem_map.2 ⟨y3, by simp, rfl⟩ : y3.1 ∈ [y0, y1, y2, y3, y4].map (·.1))
      omega
    exact ⟨⟨t, k, m, .slice a n3 c, .slice ha n4 hc⟩, rfl, a, n3, c, ha, n4, hc, rfl, rfl, Nat.le_trans b3 bs⟩
theorem sum_bulk : ∀ (ns : List Nat) (ds : List (DataW H)), ns.length = ds.length → (∀ (i : Nat) (n : Nat) (d : DataW H), ns[i]? = some n → ds[i]? = some d → n ≤ Rows.uptoBulk d) → ns.sum ≤ Rows.uptoBulkAll ds
  | [], [], _, _ => by simp
  | n :: ns, d :: ds, hl, h => by
    have h1 := h 0 n d rfl rfl
    have h2 := sum_bulk ns ds (by simpa using hl) (fun i n d a b => h (i + 1) n d (by simpa using a) (by simpa using b))
    rw [Rows.uptoBulkAll, List.sum_cons]
    omega
  | [], _ :: _, hl, _ => by simp at hl
  | _ :: _, [], hl, _ => by simp at hl
set_option maxRecDepth 100000 in
/-- A program that came in. -/
theorem inPg {base : Nat} {v : Value} {d : DataW H} {p : List MemPlace} (hv : Value.okWide Try.prog W .any base 25 v) (h : DataW.Trod enc Try.prog W 0 (fun _ => true) true 25 v d p) (hb : Rows.uptoBulk d ≤ 1048576) :
    ∃ sh : List Nat, PgL W v sh ∧ sh.length ≤ 1048576 ∧ sh.sum ≤ 1048576 := by
  obtain ⟨fuel, hf⟩ := h
  obtain ⟨cs, rfl, hcs⟩ := okWide_struct Try.underlying25 hv
  rw [ci41] at hcs
  obtain ⟨cl⟩ := cs
  simp only [Value.cells] at hf
  obtain ⟨xs, m, _, hd, _, hxl, hfs⟩ := DataW.trod_struct Try.underlying25 hf
  have hd1 := ((Prod.mk.injEq _ _ _ _).mp hd).1
  match xs, hxl, cl, hcs with
  | [y0, y1], _, [c0, c1], _ =>
    have g0 := hfs 0 _ rfl
    have g1 := hfs 1 _ rfl
    simp [ci38, ci39] at g0 g1
    have b1 : Rows.uptoBulk y1.1 ≤ 1048576 := by
      rw [hd1, Rows.uptoBulk] at hb
      have := bulk_part (List.mem_map.2 ⟨y1, by simp, rfl⟩ : y1.1 ∈ [y0, y1].map (·.1))
      omega
    obtain ⟨ca, cn, cc, rfl, _⟩ := head_cell Try.underlying22 g0
    obtain ⟨l1, d1, r1, x1, n1, s1, o1⟩ := rows_cell zF (by omega) (⟨ByteArray.empty, 0, 0, .slice none 0 0, .slice none 0 0⟩ : Fv) Try.underlying23 ci83 (GFl H) funL_cells g1
    have hex : ∀ i, ∃ n : Nat, i < l1.length → ∃ x dd, l1[i]? = some x ∧ d1[i]? = some dd ∧ (∃ a c ha hn hc, x.cv = .slice a n c ∧ x.hv = .slice ha hn hc) ∧ n ≤ Rows.uptoBulk dd := fun i => by
      by_cases hi : i < l1.length
      · obtain ⟨dd, hdd, a, n, c, ha, hn, hc, q1, q2, q3⟩ := o1 i _ (List.getElem?_eq_getElem hi)
        exact ⟨n, fun _ => ⟨_, dd, List.getElem?_eq_getElem hi, hdd, ⟨a, c, ha, hn, hc, q1, q2⟩, q3⟩⟩
      · exact ⟨0, fun h => absurd h hi⟩
    obtain ⟨N, hN⟩ := Classical.axiomOfChoice hex
    have hlen : ((List.range l1.length).map N).length = l1.length := by simp
    have hat : ∀ (i : Nat) (n : Nat), ((List.range l1.length).map N)[i]? = some n → i < l1.length ∧ n = N i := fun i n hf => by
      have hi : i < l1.length := by have := (List.getElem?_eq_some_iff.1 hf).1; simpa using this
      exact ⟨hi, by simp [hi] at hf; exact hf.symm⟩
    have hall : Rows.uptoBulkAll d1 ≤ 1048576 := by
      rcases s1 with e | ⟨e, _⟩
      · rw [e, Rows.uptoBulk] at b1; omega
      · rw [e, Rows.uptoBulkAll]; omega
    have hdl := bulk_len d1
    refine ⟨(List.range l1.length).map N, ⟨_, _, l1, rfl, hlen.symm, x1, ⟨ca, cn, cc, rfl⟩, fun i n x hn hx => ?_⟩, by rw [hlen]; omega, Nat.le_trans (sum_bulk _ d1 (by rw [hlen]; exact n1) (fun i n dd hn hdd => ?_)) hall⟩
    · obtain ⟨hi, rfl⟩ := hat i n hn
      obtain ⟨x', dd, e1, e2, e3, e4⟩ := hN i hi
      rw [hx] at e1
      cases e1
      exact e3
    · obtain ⟨hi, rfl⟩ := hat i n hn
      obtain ⟨x', dd', e1, e2, e3, e4⟩ := hN i hi
      rw [hdd] at e2
      cases e2
      exact e4
set_option maxRecDepth 100000 in
theorem val_cells (n : Nat) (cs : List Value) (y : DataW H × List MemPlace) (hl : cs.length = 2) (h : DataW.trod enc Try.prog W 0 (fun _ => true) true n 85 cs = some y) : ∃ x : Int × Int, cs = enI x ∧ True := by
  obtain ⟨xs, q, _, rfl, _, hxl, hfs⟩ := DataW.trod_struct Try.underlying85 h
  match xs, hxl, cs, hl with
  | [y0, y1], _, [c0, c1], _ =>
    have g0 := hfs 0 _ rfl
    have g1 := hfs 1 _ rfl
    simp [cells3, cells2] at g0 g1
    obtain ⟨k, e0, rfl, wk⟩ := DataW.trod_int Try.underlying3 g0
    obtain ⟨m, e1, rfl, wm⟩ := DataW.trod_int Try.underlying2 g1
    simp at e0 e1
    subst e0 e1
    exact ⟨(k, m), rfl, trivial⟩
def GNt (H : Type) (W : World) (x : Nt × Value) (d : DataW H) : Prop := Rx W 2 x.2 x.1.ar.length (flt enI x.1.ar) ∧ I64 x.1.on ∧ OkV (x.1.fn, x.1.pc) ∧ I64 x.1.k ∧ x.1.ar.length ≤ Rows.uptoBulk d
set_option maxRecDepth 100000 in
theorem note_cells (n : Nat) (cs : List Value) (y : DataW H × List MemPlace) (hl : cs.length = 6) (h : DataW.trod enc Try.prog W 0 (fun _ => true) true n 38 cs = some y) : ∃ x : Nt × Value, cs = enM x ∧ GNt H W x y.1 := by
  obtain ⟨xs, q, _, hd, _, hxl, hfs⟩ := DataW.trod_struct Try.underlying38 h
  have hd1 : y.1 = _ := congrArg Prod.fst hd
  match xs, hxl, cs, hl with
  | [y0, y1, y2, y3, y4, y5], _, [c0, c1, c2, c3, c4, c5], _ =>
    have g0 := hfs 0 _ rfl
    have g1 := hfs 1 _ rfl
    have g2 := hfs 2 _ rfl
    have g3 := hfs 3 _ rfl
    have g4 := hfs 4 _ rfl
    have g5 := hfs 5 _ rfl
    simp [cells3, ci4, ci47] at g0 g1 g2 g3 g4 g5
    obtain ⟨k0, e0, _, w0⟩ := DataW.trod_int Try.underlying3 g0
    obtain ⟨k1, e1, _, w1⟩ := DataW.trod_int Try.underlying3 g1
    obtain ⟨k2, e2, _, w2⟩ := DataW.trod_int Try.underlying3 g2
    obtain ⟨k4, e4, _, w4⟩ := DataW.trod_int Try.underlying3 g4
    obtain ⟨k5, e5, _⟩ := DataW.trod_bool Try.underlying4 g5
    simp at e0 e1 e2 e4 e5
    subst e0 e1 e2 e4 e5
    obtain ⟨l3, d3, r3, x3, n3, s3, _⟩ := rows_cell zI (by omega) ((0 : Int), (0 : Int)) Try.underlying36 ci59 (fun _ _ => True) val_cells g3
    have hs3 : l3.length ≤ Rows.uptoBulk y3.1 := by
      rcases s3 with e | ⟨e, _⟩
      · rw [e, Rows.uptoBulk]; have := bulk_len d3; omega
      · have : l3.length = 0 := by rw [n3, e]; rfl
        omega
    have bs : Rows.uptoBulk y3.1 ≤ Rows.uptoBulk y.1 := by
      rw [hd1, Rows.uptoBulk]
      have := bulk_part (List.mem_map.2 ⟨y3, by simp, rfl⟩ : y3.1 ∈ [y0, y1, y2, y3, y4, y5].map (·.1))
      omega
    exact ⟨(⟨k0, k1, k2, l3, k4, k5⟩, c3), rfl, x3, i64_of w0, ⟨w1, w2⟩, i64_of w4, Nat.le_trans hs3 bs⟩
set_option maxRecDepth 100000 in
/-- Notes that came in. -/
theorem inNt {base : Nat} {v : Value} {d : DataW H} {p : List MemPlace} (hv : Value.okWide Try.prog W .any base 29 v) (h : DataW.Trod enc Try.prog W 0 (fun _ => true) true 29 v d p) (hb : Rows.uptoBulk d ≤ 1048576) :
    ∃ ns : List Nt, NtV W v ns ∧ ns.length ≤ 1048576 ∧ ∀ n ∈ ns, OkN n := by
  obtain ⟨fuel, hf⟩ := h
  obtain ⟨a0, len0, cap0, rfl⟩ := okWide_slice Try.underlying29 hv
  simp only [Value.cells] at hf
  obtain ⟨l, ds, rs, hx, hl, hy, ho⟩ := rows_cell zM (by omega) ((⟨0, 0, 0, [], 0, false⟩ : Nt), (.slice none 0 0 : Value)) Try.underlying29 ci49 (GNt H W) note_cells hf
  have hall : Rows.uptoBulkAll ds ≤ 1048576 := by
    rcases hy with e | ⟨e, _⟩
    · have e : d = DataW.slice ds rs := e
      rw [e, Rows.uptoBulk] at hb; omega
    · rw [e, Rows.uptoBulkAll]; omega
  have hdl := bulk_len ds
  refine ⟨l.map Prod.fst, ⟨l, rfl, hx, fun x hx => ?_⟩, by rw [List.length_map]; omega, fun n hn => ?_⟩
  · obtain ⟨i, hi, rfl⟩ := List.getElem_of_mem hx
    obtain ⟨_, _, h⟩ := ho i _ (List.getElem?_eq_getElem hi)
    exact h.1
  · obtain ⟨x, hx, rfl⟩ := List.mem_map.1 hn
    obtain ⟨i, hi, rfl⟩ := List.getElem_of_mem hx
    obtain ⟨dd, hdd, h⟩ := ho i _ (List.getElem?_eq_getElem hi)
    have := bulk_part (List.mem_of_getElem? hdd)
    exact ⟨h.2.1, h.2.2.1, h.2.2.2.1, by have := h.2.2.2.2; omega⟩
end
end Go.Proofs.Ytjjfpokmpcpicaa.into
