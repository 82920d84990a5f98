/-
  Which registers are asked for anywhere: the document's side.
-/
import Derived.Test.YtpbdmbmafjkinaaDoorTb
namespace Go.Proofs.YtpbdmbmafjkinaaDoor
open Go.RowKit
set_option linter.unusedVariables false
set_option linter.unusedSimpArgs false
/-- An instruction of a list in memory. -/
theorem InsV.at8 {w : World} {D : Nat → Prop} {l : List RIn} {a : Option Addr} {n c : Nat} (h : InsV D w l (.slice a n c)) {i : Nat} {x : RIn} (hx : l[i]? = some x) :
    ∃ ib io aa ac ea ec, a = some ⟨ib, io, none⟩ ∧ ib < w.heap.size ∧ InP D w x ⟨x.op, x.code, x.dst, .slice aa x.args.length ac, x.n, x.pc, x.need, .slice ea x.ex.length ec⟩ ∧ x.args.length ≤ ac ∧ ac ≤ maxLen ∧ x.ex.length ≤ ec ∧ ec ≤ maxLen ∧
    ∀ X, Below w.heap.size w X → ib < X.heap.size ∧ X.cell? ⟨ib, io + i * 8, none⟩ = some (.int .i64 x.op) ∧ X.cell? ⟨ib, io + i * 8 + 1, none⟩ = some (.int .i64 x.code) ∧ X.cell? ⟨ib, io + i * 8 + 2, none⟩ = some (.int .i64 x.dst) ∧ X.cell? ⟨ib, io + i * 8 + 3, none⟩ = some (.slice aa x.args.length ac) ∧ X.cell? ⟨ib, io + i * 8 + 4, none⟩ = some (.int .i64 x.n) ∧ X.cell? ⟨ib, io + i * 8 + 5, none⟩ = some (.int .i64 x.pc) ∧ X.cell? ⟨ib, io + i * 8 + 6, none⟩ = some (.int .i64 x.need) ∧ X.cell? ⟨ib, io + i * 8 + 7, none⟩ = some (.slice ea x.ex.length ec) := by
  obtain ⟨ib, io, cap, q, e, hb, hDb, hP, hcell⟩ := NV.at zIn h hx
  obtain ⟨op, code, dst, av, n, pc, need, ev⟩ := q
  have hP2 := hP
  obtain ⟨h1, h2, h3, h4, h5, h6, h7, h8⟩ := hP
  simp only at h1 h2 h3 h4 h5 h6 h7 h8
  subst h1 h2 h3 h4 h5 h6
  obtain ⟨aa, ac, rfl, a1, a2⟩ := h7.1.shape
  obtain ⟨ea, ec, rfl, e1, e2⟩ := NV.shape h8
  refine ⟨ib, io, aa, ac, ea, ec, by cases e; rfl, hb, hP2, a1, a2, e1, e2, fun X hX => ⟨Nat.lt_of_lt_of_le hb hX.size, (hX.cell (p := ⟨ib, io + i * 8, none⟩) hb).trans (hcell 0 _ rfl), (hX.cell (p := ⟨ib, io + i * 8 + 1, none⟩) hb).trans (hcell 1 _ rfl), (hX.cell (p := ⟨ib, io + i * 8 + 2, none⟩) hb).trans (hcell 2 _ rfl), (hX.cell (p := ⟨ib, io + i * 8 + 3, none⟩) hb).trans (hcell 3 _ rfl), (hX.cell (p := ⟨ib, io + i * 8 + 4, none⟩) hb).trans (hcell 4 _ rfl), (hX.cell (p := ⟨ib, io + i * 8 + 5, none⟩) hb).trans (hcell 5 _ rfl), (hX.cell (p := ⟨ib, io + i * 8 + 6, none⟩) hb).trans (hcell 6 _ rfl), (hX.cell (p := ⟨ib, io + i * 8 + 7, none⟩) hb).trans (hcell 7 _ rfl)⟩⟩
/-- Marks: those that P tells. -/
def AM (X0 : World) (g : Nat) (P : Nat → Prop) (X : World) : Prop := Fr (fun q => q = g) X0 X ∧ ∃ M : Rset, BS X M (.slice (some ⟨g, 0, none⟩) 512 512) ∧ ∀ r, M r = true ↔ r < 512 ∧ P r
theorem AM.put {X0 X : World} {g : Nat} {P Q : Nat → Prop} {r : Nat} (h : AM X0 g P X) (hr : r < 512) (hQ : ∀ s, Q s ↔ P s ∨ s = r) : AM X0 g Q (X.setCell ⟨g, r, none⟩ (.bool true)) := by
  obtain ⟨f, M, h1, h2⟩ := h
  refine ⟨f.trans (Fr.setCell (S := fun q => q = g) (Fr.refl _ X) ⟨g, r, none⟩ (.inr rfl) _), pbit M r true, by have := h1.put hr; simpa using this, fun s => ?_⟩
  unfold pbit
  rw [hQ]
  by_cases e : s = r
  · subst e; simp [hr]
  · rw [if_neg e, h2]; simp [e]
theorem AM.cong {X0 X : World} {g : Nat} {P Q : Nat → Prop} (h : AM X0 g P X) (hQ : ∀ s, s < 512 → (Q s ↔ P s)) : AM X0 g Q X := by
  obtain ⟨f, M, h1, h2⟩ := h
  exact ⟨f, M, h1, fun s => by rw [h2]; exact ⟨fun q => ⟨q.1, (hQ s q.1).2 q.2⟩, fun q => ⟨q.1, (hQ s q.1).1 q.2⟩⟩⟩
theorem AM.cell {X0 X : World} {g : Nat} {P : Nat → Prop} (h : AM X0 g P X) {r : Nat} (hr : r < 512) : g < X.heap.size ∧ (∃ b, X.cell? ⟨g, r, none⟩ = some (.bool b) ∧ (b = true ↔ P r)) ∧ X.frozen? ⟨g, r, none⟩ = false := by
  obtain ⟨f, M, h1, h2⟩ := h
  obtain ⟨g', go, gc, e, hg, hc⟩ := h1.read
  cases e
  have h3 := hc r hr
  rw [Nat.zero_add] at h3
  exact ⟨hg, ⟨M r, h3.1, by rw [h2]; simp [hr]⟩, h3.2⟩
theorem askL_push {l : List Op} {i r : Nat} {o : Op} (h : l[i]? = some o) : askL (l.take (i + 1)) r = true ↔ askL (l.take i) r = true ∨ (o.k = 0 ∧ o.n = (r : Int)) := by
  rw [take_push h]
  unfold askL
  rw [List.any_append, Bool.or_eq_true]
  simp
set_option maxRecDepth 100000 in
set_option maxHeartbeats 6400000 in
theorem mark_any {w X0 : World} {g : Nat} {P : Nat → Prop} {D : Nat → Prop} {l : List Op} {lv : Value} (h : OpV D w l lv) (hD : ∀ k, D k → k ≠ g) (hm : AM X0 g P w) (hL : l.length ≤ 1048576) :
    Calls Tryd.prog 59 #[.slice (some ⟨g, 0, none⟩) 512 512, lv] w fun e w' => (∃ v, e = .returned v) ∧ AM X0 g (fun r => P r ∨ askL l r = true) w' := by
  obtain ⟨va, vc, rfl, hv1, hv2⟩ := h.1.shape
  obtain ⟨L, hLL⟩ : ∃ z, Hid (l.length = z) := ⟨_, hide rfl⟩
  have H := hide h
  have HM0 : Hid (Fr (fun q => q = g) w w ∧ AM X0 g (fun r => P r ∨ askL (l.take 0) r = true) w) := ⟨Fr.refl _ _, hm.cong (fun s _ => by simp [askL])⟩
  have HD := hide hD
  rw [unhide hLL] at hL hv1 H ⊢
  unfold maxLen at hv2
  clear h hm hD
  go_enter Tryd.func59, Tryd.ntmps59
  go_wp2_with fail
  go_loopg [4] L (fun gg t4 wr => ∃ i : Nat, Hid (i + gg = L) ∧ t4 = .int .i64 (i : Int) ∧ Hid (Fr (fun q => q = g) w wr ∧ AM X0 g (fun r => P r ∨ askL (l.take i) r = true) wr))
  case atStart => exact ⟨0, by unfold Hid; omega, rfl, HM0⟩
  case round =>
    clear HM0
    obtain ⟨i, hi, rfl, hG⟩ := hrel
    by_cases hlt : i < L
    · have i0 : (0 : Int) ≤ (i : Int) := by omega
      have i1 : (i : Int) < (L : Int) := by omega
      obtain ⟨o, ho⟩ : ∃ o, l[i]? = some o := ⟨_, List.getElem?_eq_getElem (by rw [unhide hLL]; exact hlt)⟩
      have hb := (unhide H).2 (by rw [unhide hLL]; omega)
      obtain ⟨b, off, cap, e, _, _, hbl, hc⟩ := Rx.elem zO (by have q := (unhide H).1; rw [← unhide hLL] at q; exact q) ho
      rw [unhide hLL] at e
      cases e
      have hbg : b ≠ g := unhide HD b (hb b rfl)
      have k0 : wr.cell? ⟨b, off + i * 2, none⟩ = some (.int .i64 o.k) := ((unhide hG).1.cell (a := ⟨b, off + i * 2 + 0, none⟩) hbl hbg).trans (hc 0 _ rfl)
      have k1 : wr.cell? ⟨b, off + i * 2 + 1, none⟩ = some (.int .i64 o.n) := ((unhide hG).1.cell (a := ⟨b, off + i * 2 + 1, none⟩) hbl hbg).trans (hc 1 _ rfl)
      have kl : b < wr.heap.size := Nat.lt_of_lt_of_le hbl (unhide hG).1.size
      have HO := hide ho
      clear hc ho hb
      by_cases hk : o.k = 0
      · have hk0 : (o.k == 0) = true := by simp [hk]
        have hkd : decide (o.k = 0) = true := by simp [hk]
        by_cases hr : 0 ≤ o.n ∧ o.n < 512
        · obtain ⟨r, hr0⟩ : ∃ r : Nat, o.n = (r : Int) := ⟨o.n.toNat, by omega⟩
          have hr5 : r < 512 := by omega
          rw [hr0] at k1
          have r0 : (0 : Int) ≤ (r : Int) := by omega
          have r1 : (r : Int) < 512 := by omega
          obtain ⟨gl, ⟨b0, g0, _⟩, gf⟩ := (unhide hG).2.cell hr5
          have HG2 : Hid (Fr (fun q => q = g) w (wr.setCell ⟨g, r, none⟩ (.bool true)) ∧ AM X0 g (fun s => P s ∨ askL (l.take (i + 1)) s = true) (wr.setCell ⟨g, r, none⟩ (.bool true))) := by
            refine ⟨(unhide hG).1.trans (Fr.setCell (S := fun q => q = g) (Fr.refl _ wr) ⟨g, r, none⟩ (.inr rfl) _), (unhide hG).2.put hr5 (fun s => ?_)⟩
            rw [askL_push (unhide HO), or_assoc]
            have : (o.k = 0 ∧ o.n = (s : Int)) ↔ s = r := by omega
            rw [this]
          clear hk hr hr0 hG
          go_wp2_with fail
          go_roundg (gk - 1)
          case measure => have := unhide hi; omega
          case rel => exact ⟨i + 1, by have := unhide hi; unfold Hid; omega, by go_num, HG2⟩
        · have HG2 : Hid (Fr (fun q => q = g) w wr ∧ AM X0 g (fun s => P s ∨ askL (l.take (i + 1)) s = true) wr) := by
            refine ⟨(unhide hG).1, (unhide hG).2.cong (fun s hs => ?_)⟩
            rw [askL_push (unhide HO)]
            have : ¬ (o.k = 0 ∧ o.n = (s : Int)) := by omega
            simp [this]
          clear hk hG
          by_cases n0 : 0 ≤ o.n
          · have n1 : ¬ o.n < 512 := by omega
            clear hr
            go_wp2_with fail
            go_roundg (gk - 1)
            case measure => have := unhide hi; omega
            case rel => exact ⟨i + 1, by have := unhide hi; unfold Hid; omega, by go_num, HG2⟩
          · clear hr
            go_wp2_with fail
            go_roundg (gk - 1)
            case measure => have := unhide hi; omega
            case rel => exact ⟨i + 1, by have := unhide hi; unfold Hid; omega, by go_num, HG2⟩
      · have hk0 : (o.k == 0) = false := by simp [hk]
        have hkd : decide (o.k = 0) = false := by simp [hk]
        have HG2 : Hid (Fr (fun q => q = g) w wr ∧ AM X0 g (fun s => P s ∨ askL (l.take (i + 1)) s = true) wr) := by
          refine ⟨(unhide hG).1, (unhide hG).2.cong (fun s hs => ?_)⟩
          rw [askL_push (unhide HO)]
          have : ¬ (o.k = 0 ∧ o.n = (s : Int)) := fun q => hk q.1
          simp [this]
        clear hk hG
        go_wp2_with fail
        go_roundg (gk - 1)
        case measure => have := unhide hi; omega
        case rel => exact ⟨i + 1, by have := unhide hi; unfold Hid; omega, by go_num, HG2⟩
    · have hiL : L = i := by have := unhide hi; omega
      have i1 : ¬ (i : Int) < (L : Int) := by omega
      have hq := (unhide hG).2
      rw [List.take_of_length_le (by rw [unhide hLL, hiL]; exact Nat.le_refl _)] at hq
      have HQ := hide hq
      clear hiL hG hq
      go_wp2_with fail
      go_end0
      exact ⟨⟨_, rfl⟩, unhide HQ⟩
def AkP (w : World) (bl : List Bk) (e : Ending) (w' : World) : Prop :=
  ∃ rv rl, e = .returned rv ∧ Below w.heap.size w w' ∧ Ro w' 1 rv rl.length (flt enN rl) ∧ (∀ k, rv.ownBlock = some k → w.heap.size ≤ k) ∧ rl.length ≤ 512 ∧ ∀ r, r ∈ rl ↔ isReg bl r
/-- The registers found so far. -/
structure RF (X1 : World) (bl : List Bk) (r : Nat) (v : Value) (rl : List Nat) (X : World) : Prop where
  bel : Below X1.heap.size X1 X
  row : Ro X 1 v rl.length (flt enN rl)
  own : ∀ k, v.ownBlock = some k → X1.heap.size ≤ k
  len : rl.length ≤ r
  mem : ∀ s, s ∈ rl ↔ s < r ∧ isReg bl s
theorem RF.skip {X1 X : World} {bl : List Bk} {r : Nat} {v : Value} {rl : List Nat} (h : RF X1 bl r v rl X) (hr : ¬ isReg bl r) : RF X1 bl (r + 1) v rl X :=
  ⟨h.bel, h.row, h.own, by have := h.len; omega, fun s => by
    rw [h.mem]
    exact ⟨fun q => ⟨by omega, q.2⟩, fun q => ⟨by rcases Nat.lt_or_ge s r with q2 | q2; exact q2; exact absurd ((show s = r by omega) ▸ q.2) hr, q.2⟩⟩⟩
theorem RF.push {X1 X : World} {bl : List Bk} {r n : Nat} {va : Option Addr} {vc : Nat} {rl : List Nat} (h : RF X1 bl r (.slice va n vc) rl X) (hn : n = rl.length) (hr : isReg bl r) (h5 : r < 512) : ∃ ya yc w1, (Builtin.append_ #[25, 25] 25 #[.slice va n vc, .slice (some ⟨X.heap.size, 0, none⟩) 1 1]).run Tryd.prog (X.alloc (.cells #[.int .i64 (r : Int)] 3)) = .ok (.slice ya (n + 1) yc) w1 ∧ RF X1 bl (r + 1) (.slice ya (n + 1) yc) (rl ++ [r]) w1 := by
  subst hn
  obtain ⟨i4, hi4, hz4, hs4, hb4⟩ := info_parts infIC2
  have hB := box1n X (.cells #[.int .i64 (r : Int)] 3)
  have hl := h.len
  obtain ⟨x', w1, hrun, r1, r2, r3⟩ := Ro.app (P := Tryd.prog) 25 25 3 i4 _ 1 8 Tryd.underlying25 hi4 hz4 hs4 hb4 rfl (by decide) (h.row.fr (Fr.of_below (S := fun _ => False) hB) (fun _ _ e => e)) ⟨X.heap.size, 0, none⟩ 1 1 (enN r) rfl (new_cells X _ _) (by simp [enN, Value.oneCell']) (by omega) (by unfold maxLen; omega) (by omega)
  obtain ⟨ya, yc, rfl, _, _⟩ := r1.shape
  have f1 : Fr (fun k => (Value.slice va rl.length vc).ownBlock = some k) (X.alloc (.cells #[.int .i64 (r : Int)] 3)) w1 := (Fr.refl _ _).grown r2 (fun k e => .inr e)
  have hs := h.bel.size
  refine ⟨ya, yc, w1, hrun, ⟨(h.bel.trans (hB.mono hs)).trans (f1.below (by simp; omega) (fun k hk e => by have := h.own k e; omega)), by rw [List.length_append, flt_append, flt_one]; exact r1, fun k hk => ?_, by simp; omega, fun s => ?_⟩⟩
  · rcases r3 with q | q
    · exact h.own k (by rw [← q]; exact hk)
    · rw [q] at hk; cases hk; simp; omega
  · rw [List.mem_append, h.mem]
    constructor
    · rintro (q | q)
      · exact ⟨by omega, q.2⟩
      · obtain rfl : s = r := by simpa using q
        exact ⟨by omega, hr⟩
    · intro q
      rcases Nat.lt_or_ge s r with q2 | q2
      · exact .inl ⟨q2, q.2⟩
      · exact .inr (by have : s = r := by omega
                       simp [this])
def PA (bl : List Bk) (b : Nat) (r : Nat) : Prop := ∃ u ∈ bl.take b, ∃ x ∈ u.ins, askE x r = true
def PI (u : Bk) (i : Nat) (r : Nat) : Prop := ∃ x ∈ u.ins.take i, askE x r = true
def PE (x : RIn) (k : Nat) (r : Nat) : Prop := ∃ s ∈ x.ex.take k, askL s.sl r = true
theorem PA_next {bl : List Bk} {b : Nat} {u : Bk} (h : bl[b]? = some u) (r : Nat) : PA bl (b + 1) r ↔ PA bl b r ∨ PI u u.ins.length r := by
  unfold PA PI
  rw [take_push h, List.take_length]
  simp only [List.mem_append, List.mem_cons, List.not_mem_nil, or_false]
  constructor
  · rintro ⟨z, hz | rfl, hx⟩
    · exact .inl ⟨z, hz, hx⟩
    · exact .inr hx
  · rintro (⟨z, hz, hx⟩ | hx)
    · exact ⟨z, .inl hz, hx⟩
    · exact ⟨u, .inr rfl, hx⟩
theorem PI_next {u : Bk} {i : Nat} {x : RIn} (h : u.ins[i]? = some x) (r : Nat) : PI u (i + 1) r ↔ PI u i r ∨ (askL x.args r = true ∨ PE x x.ex.length r) := by
  unfold PI PE
  rw [take_push h, List.take_length]
  have he : askE x r = true ↔ askL x.args r = true ∨ ∃ s ∈ x.ex, askL s.sl r = true := by
    unfold askE
    rw [Bool.or_eq_true, List.any_eq_true]
  simp only [List.mem_append, List.mem_cons, List.not_mem_nil, or_false]
  constructor
  · rintro ⟨z, hz | rfl, hx⟩
    · exact .inl ⟨z, hz, hx⟩
    · exact .inr (he.1 hx)
  · rintro (⟨z, hz, hx⟩ | hx)
    · exact ⟨z, .inl hz, hx⟩
    · exact ⟨x, .inr rfl, he.2 hx⟩
theorem PE_next {x : RIn} {k : Nat} {s : Sh} (h : x.ex[k]? = some s) (r : Nat) : PE x (k + 1) r ↔ PE x k r ∨ askL s.sl r = true := by
  unfold PE
  rw [take_push h]
  simp only [List.mem_append, List.mem_cons, List.not_mem_nil, or_false]
  constructor
  · rintro ⟨z, hz | rfl, hx⟩
    · exact .inl ⟨z, hz, hx⟩
    · exact .inr hx
  · rintro (⟨z, hz, hx⟩ | hx)
    · exact ⟨z, .inl hz, hx⟩
    · exact ⟨s, .inr rfl, hx⟩
theorem isReg_PA {bl : List Bk} {r : Nat} : isReg bl r ↔ r < 512 ∧ PA bl bl.length r := by
  unfold isReg PA
  rw [List.take_length]
set_option maxRecDepth 100000 in
set_option maxHeartbeats 12800000 in
theorem asked_any {w : World} {D0 : Nat → Prop} {fn regs : Int} {bl : List Bk} {v : Value} (h : BksV D0 w bl v) (hN : bl.length ≤ 1048576) (hO : ∀ u ∈ bl, OkL u) :
    Calls Tryd.prog 37 #[.agg #[.int .i64 fn, .int .i64 regs, v]] w (AkP w bl) := by
  obtain ⟨va, vc, rfl, hv1, hv2⟩ := NV.shape h
  obtain ⟨N, hNN⟩ : ∃ z, Hid (bl.length = z) := ⟨_, hide rfl⟩
  obtain ⟨D, hDD⟩ : ∃ D : Nat → Prop, Hid (D = fun k => k < w.heap.size) := ⟨_, hide rfl⟩
  have HDW : Hid (∀ k, D k → k < w.heap.size) := fun k hk => by rw [unhide hDD] at hk; exact hk
  have HV : Hid (BksV D w bl (.slice va bl.length vc)) := BksV.mv D0 D (fun _ => False) w w bl _ h (Fr.refl _ w) (fun k hk _ => ⟨fun q => q, by rw [unhide hDD]; exact hk⟩)
  have HO := hide hO
  rw [unhide hNN] at hN hv1 HV ⊢
  unfold maxLen at hv2
  obtain ⟨MO, hMO⟩ : ∃ z, Hid (moB 512 = z) := ⟨_, hide rfl⟩
  obtain ⟨W, hW⟩ : ∃ W, Hid (w.alloc (.cells #[.int .i64 fn, .int .i64 regs, .slice va N vc] 24) = W) := ⟨_, hide rfl⟩
  have hWs : W.heap.size = w.heap.size + 1 := by rw [← unhide hW]; simp
  obtain ⟨X0, hX0⟩ : ∃ X0, Hid (W.alloc MO = X0) := ⟨_, hide rfl⟩
  have hn := heap_alloc_new w (.cells #[.int .i64 fn, .int .i64 regs, .slice va N vc] 24)
  rw [unhide hW] at hn
  have hB0 : Below w.heap.size w X0 := by
    rw [← unhide hX0, ← unhide hW]; exact (box1n w _).trans ((box1n _ MO).mono (by simp))
  have hbx0 : X0.heap[w.heap.size]? = some (.cells #[.int .i64 fn, .int .i64 regs, .slice va N vc] 24) := by rw [← unhide hX0]; exact ((box1n W MO).block _ (by omega)).trans hn
  have HBB : Hid (∀ X, Fr (fun q => q = w.heap.size + 1) X0 X → Below w.heap.size w X ∧ w.heap.size < X.heap.size ∧ X.cell? ⟨w.heap.size, 2, none⟩ = some (.slice va N vc)) := fun X f => by
    have hb : X.heap[w.heap.size]? = some (.cells #[.int .i64 fn, .int .i64 regs, .slice va N vc] 24) := (f.block _ (Array.getElem?_eq_some_iff.1 hbx0).1 (by omega)).trans hbx0
    obtain ⟨q1, _, q3⟩ := blk_cells hb
    exact ⟨hB0.trans (f.below hB0.size (fun k hk e => by omega)), q3, by rw [q1]; rfl⟩
  have HM0 : Hid (AM X0 (w.heap.size + 1) (PA bl 0) X0) := by
    refine ⟨Fr.refl _ _, F0, ?_, fun r => by simp [F0, PA]⟩
    have q := BS.made W
    rw [unhide hMO, unhide hX0, hWs] at q
    exact q
  have hW' := unhide hW
  have hX0' := unhide hX0
  have hmk := mk512
  rw [unhide hMO] at hmk
  clear h hO hn hB0 hbx0 hDD
  go_enter Tryd.func37, Tryd.ntmps37
  go_wp2_with fail
  clear hmk hW' hX0' hX0 hW
  go_loopg [4] N (fun gg t4 wr => ∃ b : Nat, Hid (b + gg = N) ∧ t4 = .int .i64 (b : Int) ∧ Hid (AM X0 (w.heap.size + 1) (PA bl b) wr))
  case atStart => exact ⟨0, by unfold Hid; omega, rfl, HM0⟩
  case round =>
    clear HM0
    obtain ⟨b, hb, rfl, hG⟩ := hrel
    obtain ⟨hbel, cl, c2⟩ := unhide HBB wr (unhide hG).1
    by_cases hlt : b < N
    · have b0 : (0 : Int) ≤ (b : Int) := by omega
      have b1 : (b : Int) < (N : Int) := by omega
      obtain ⟨u, hu⟩ : ∃ u, bl[b]? = some u := ⟨_, List.getElem?_eq_getElem (by rw [unhide hNN]; exact hlt)⟩
      obtain ⟨vb, vo, ia, ic, na, nc, ea, hvb, hIns, _, hic, _, hicl, _, hcc⟩ := (unhide HV).blk hu
      subst ea
      unfold maxLen at hic
      have HCC := hide hcc
      have HU := hide hu
      have HIN := hide hIns
      have HOU := hide (unhide HO u (List.mem_of_getElem? hu))
      have hui := (unhide HOU).1
      obtain ⟨n, hnn⟩ : ∃ z, Hid (u.ins.length = z) := ⟨_, hide rfl⟩
      rw [unhide hnn] at HCC hicl hui HIN
      have HG0 : Hid (AM X0 (w.heap.size + 1) (fun r => PA bl b r ∨ PI u 0 r) wr) := (unhide hG).cong (fun s _ => by simp [PI])
      clear hcc hu hIns hG
      go_wp2_with fail
      clear c2 cl hbel
      go_loopg [5] n (fun gg t5 wr => ∃ i : Nat, Hid (i + gg = n) ∧ t5 = .int .i64 (i : Int) ∧ Hid (AM X0 (w.heap.size + 1) (fun r => PA bl b r ∨ PI u i r) wr))
      case atStart => exact ⟨0, by unfold Hid; omega, rfl, HG0⟩
      case round =>
        clear HG0
        obtain ⟨i, hi, rfl, hG⟩ := hrel
        obtain ⟨hbel, cl, c2⟩ := unhide HBB wr (unhide hG).1
        obtain ⟨t0, _, t1, _⟩ := unhide HCC wr hbel
        by_cases hin : i < n
        · have i0 : (0 : Int) ≤ (i : Int) := by omega
          have i1 : (i : Int) < (n : Int) := by omega
          obtain ⟨x, hx⟩ : ∃ x, u.ins[i]? = some x := ⟨_, List.getElem?_eq_getElem (by rw [unhide hnn]; exact hin)⟩
          obtain ⟨ib, io, aa, ac, ea, ec, e1, hib, hP, ha1, ha2, he1, he2, hcc⟩ := InsV.at8 (unhide HIN) hx
          subst e1
          have HP := hide hP
          have HX := hide hx
          have HC8 := hide hcc
          obtain ⟨k0, _, _, _, k3, _, _, _, _⟩ := hcc wr hbel
          obtain ⟨hM1, hM2, hM3⟩ := (unhide HOU).2.2 x (List.mem_of_getElem? hx)
          have HM3 := hide hM3
          obtain ⟨EL, hEL⟩ : ∃ z, Hid (x.ex.length = z) := ⟨_, hide rfl⟩
          unfold maxLen at ha2 he2
          have HMK := hide (mark_any (D := D) (Rd.mv hP.2.2.2.2.2.2.1 (Fr.of_below (S := fun _ => False) hbel) (fun k hk d => ⟨fun e => e, d⟩)) (fun k hk => by have := unhide HDW k hk; omega) (unhide hG) hM1)
          rw [unhide hEL] at he1 hM2 HC8 HP
          clear hcc hx hP hG hM3
          go_wp2_with fail
          refine (unhide HMK).mono ?_
          rintro e Y ⟨⟨v2, rfl⟩, hAM⟩
          have HG0 : Hid (AM X0 (w.heap.size + 1) (fun r => (PA bl b r ∨ PI u i r) ∨ (askL x.args r = true ∨ PE x 0 r)) Y) := hAM.cong (fun s _ => by simp [PE])
          clear hAM HMK c2 cl hbel t0 t1 k0 k3
          go_wp2_with fail
          go_loopg [6] EL (fun gg t6 wr => ∃ k : Nat, Hid (k + gg = EL) ∧ t6 = .int .i64 (k : Int) ∧ Hid (AM X0 (w.heap.size + 1) (fun r => (PA bl b r ∨ PI u i r) ∨ (askL x.args r = true ∨ PE x k r)) wr))
          case atStart => exact ⟨0, by unfold Hid; omega, rfl, HG0⟩
          case round =>
            clear HG0
            obtain ⟨k, hk, rfl, hG⟩ := hrel
            obtain ⟨hbel, cl, c2⟩ := unhide HBB wr (unhide hG).1
            obtain ⟨t0, _, t1, _⟩ := unhide HCC wr hbel
            obtain ⟨k0, _, _, _, _, _, _, _, k7⟩ := unhide HC8 wr hbel
            by_cases hke : k < EL
            · have j0 : (0 : Int) ≤ (k : Int) := by omega
              have j1 : (k : Int) < (EL : Int) := by omega
              obtain ⟨f, hf⟩ : ∃ f, x.ex[k]? = some f := ⟨_, List.getElem?_eq_getElem (by rw [unhide hEL]; exact hke)⟩
              obtain ⟨g, eo, ecp, q, e, hg, hDg, hPf, hcell⟩ := NV.at zSh (unhide HP).2.2.2.2.2.2.2 hf
              rw [unhide hEL] at e
              cases e
              obtain ⟨rfn, rpc, rv⟩ := q
              obtain ⟨p1, p2, p3⟩ := hPf
              simp only at p1 p2 p3
              obtain ⟨sa, sc, rfl, hs1, hs2⟩ := p3.1.shape
              unfold maxLen at hs2
              have s0 : wr.cell? ⟨g, eo + k * 3 + 2, none⟩ = some (.slice sa f.sl.length sc) := (hbel.cell (p := ⟨g, eo + k * 3 + 2, none⟩) hg).trans (hcell 2 _ rfl)
              have sl : g < wr.heap.size := Nat.lt_of_lt_of_le hg hbel.size
              have HFF := hide hf
              have HMK := hide (mark_any (D := D) (Rd.mv p3 (Fr.of_below (S := fun _ => False) hbel) (fun k hk d => ⟨fun e => e, d⟩)) (fun k hk => by have := unhide HDW k hk; omega) (unhide hG) (unhide HM3 f (List.mem_of_getElem? hf)))
              clear hcell p3 hf hG
              go_wp2_with fail
              refine (unhide HMK).mono ?_
              rintro e Y2 ⟨⟨v2, rfl⟩, hAM⟩
              have HG2 : Hid (AM X0 (w.heap.size + 1) (fun r => (PA bl b r ∨ PI u i r) ∨ (askL x.args r = true ∨ PE x (k + 1) r)) Y2) := hAM.cong (fun s _ => by rw [PE_next (unhide HFF)]; simp only [or_assoc])
              clear hAM HMK
              go_wp2_with fail
              go_roundg (gk - 1)
              case measure => have := unhide hk; omega
              case rel => exact ⟨k + 1, by have := unhide hk; unfold Hid; omega, by go_num, HG2⟩
            · have hkE : EL = k := by have := unhide hk; omega
              have j1 : ¬ (k : Int) < (EL : Int) := by omega
              have HG2 : Hid (AM X0 (w.heap.size + 1) (fun r => PA bl b r ∨ PI u (i + 1) r) wr) := (unhide hG).cong (fun s _ => by rw [PI_next (unhide HX), unhide hEL, hkE, or_assoc])
              clear hkE hG
              go_wp2_with fail
              go_roundg (n - (i + 1))
              case measure => have := unhide hi; omega
              case rel => exact ⟨i + 1, by have := unhide hi; unfold Hid; omega, by go_num, HG2⟩
        · have hin2 : n = i := by have := unhide hi; omega
          have i1 : ¬ (i : Int) < (n : Int) := by omega
          have HG2 : Hid (AM X0 (w.heap.size + 1) (PA bl (b + 1)) wr) := (unhide hG).cong (fun s _ => by rw [PA_next (unhide HU), unhide hnn, hin2])
          clear hin2 hG
          go_wp2_with fail
          go_roundg (N - (b + 1))
          case measure => have := unhide hb; omega
          case rel => exact ⟨b + 1, by have := unhide hb; unfold Hid; omega, by go_num, HG2⟩
    · have hbN : N = b := by have := unhide hb; omega
      have b1 : ¬ (b : Int) < (N : Int) := by omega
      have HPA : Hid (AM X0 (w.heap.size + 1) (isReg bl) wr) := (unhide hG).cong (fun s hs => by rw [isReg_PA, unhide hNN, hbN]; simp [hs])
      have HBL := hide hbel
      clear hbN hG
      go_wp2_with fail
      clear c2 cl hbel
      obtain ⟨X1, rfl⟩ : ∃ z, z = wr := ⟨_, rfl⟩
      go_loopg [8, 7] 512 (fun gg t8 t7 wr => ∃ (r : Nat) (la : Option Addr) (ln lc : Nat) (rl : List Nat), Hid (r + gg = 512) ∧ t8 = .int .i64 (r : Int) ∧ t7 = .slice la ln lc ∧ Hid (ln = rl.length ∧ RF X1 bl r (.slice la ln lc) rl wr))
      case atStart => exact ⟨0, none, 0, 0, [], by unfold Hid; omega, rfl, rfl, rfl, Below.refl _ _, Ro.nil _ 1, (fun k hk => by cases hk), Nat.le_refl _, fun s => by simp⟩
      case round =>
        obtain ⟨r, la, ln, lc, rl, hr, rfl, rfl, hG⟩ := hrel
        by_cases h5 : r < 512
        · have r0 : (0 : Int) ≤ (r : Int) := by omega
          have r1 : (r : Int) < 512 := by omega
          obtain ⟨gl, ⟨bb, gc, gi⟩, gf⟩ := (unhide HPA).cell h5
          have gc2 : wr.cell? ⟨w.heap.size + 1, r, none⟩ = some (.bool bb) := ((unhide hG).2.bel.cell (p := ⟨w.heap.size + 1, r, none⟩) gl).trans gc
          have gl2 : w.heap.size + 1 < wr.heap.size := Nat.lt_of_lt_of_le gl (unhide hG).2.bel.size
          clear gl gc gf
          cases bb with
          | true =>
            obtain ⟨ya, yc, w1, a1, a2⟩ := (unhide hG).2.push (unhide hG).1 (gi.1 rfl) h5
            have HRUN := hide a1
            have HG2 : Hid (ln + 1 = (rl ++ [r]).length ∧ RF X1 bl (r + 1) (.slice ya (ln + 1) yc) (rl ++ [r]) w1) := ⟨by rw [(unhide hG).1]; simp, a2⟩
            clear a1 a2 gi
            go_wp2_with (first | (at_builtin; refine wpList_appRunC rfl _ _ rfl rfl rfl (unhide HRUN) ?_))
            go_roundg (gk - 1)
            case measure => have := unhide hr; omega
            case rel => exact ⟨r + 1, ya, _, yc, _, by have := unhide hr; unfold Hid; omega, by go_num, rfl, HG2⟩
          | false =>
            have HG2 : Hid (ln = rl.length ∧ RF X1 bl (r + 1) (.slice la ln lc) rl wr) := ⟨(unhide hG).1, (unhide hG).2.skip (fun q => by have := gi.2 q; cases this)⟩
            clear gi
            go_wp2_with fail
            go_roundg (gk - 1)
            case measure => have := unhide hr; omega
            case rel => exact ⟨r + 1, la, ln, lc, rl, by have := unhide hr; unfold Hid; omega, by go_num, rfl, HG2⟩
        · have r1 : ¬ (r : Int) < 512 := by omega
          have hr5 : r = 512 := by have := unhide hr; omega
          have HF := hide (unhide hG).2
          clear hG
          go_wp2_with fail
          go_ret
          have hf := unhide HF
          have hs1 := (unhide HBL).size
          exact ⟨_, rl, rfl, (unhide HBL).trans (hf.bel.mono hs1), hf.row, fun k hk => Nat.le_trans hs1 (hf.own k hk), by have := hf.len; omega, fun s => by rw [hf.mem, hr5]; exact ⟨fun q => q.2, fun q => ⟨q.1, q⟩⟩⟩
end Go.Proofs.YtpbdmbmafjkinaaDoor
