/-
  Of an instruction: what it takes and puts, and whether it jumps or ends.
-/
import Derived.Test.YtlogmdldjmkkjaaGreatDoorVMap
import Derived.Test.YtlogmdldjmkkjaaGreatDoorOps2
import Derived.BigQuiet
import Derived.Deep.Draws
namespace Go.Proofs.YtlogmdldjmkkjaaGreatDoor
open Go.RowKit
set_option linter.unusedVariables false
set_option linter.unusedSimpArgs false
theorem Tryz.info242 : (Tryz.prog.info? 242).map (fun i => (i.zero, i.size, i.bytes)) = some (some (.agg #[.int .i64 0, .int .i64 0]), 2, 16) := by kernel_rfl
/-- A cell that may be written. -/
def Bxv (X : World) (b : Nat) (v : Value) : Prop := X.cell? ⟨b, 0, none⟩ = some v ∧ X.frozen? ⟨b, 0, none⟩ = false
theorem Bxv.lt {X : World} {b : Nat} {v : Value} (h : Bxv X b v) : b < X.heap.size := World.block_lt_of_cell? _ _ h.1
theorem Bxv.keep {S : Nat → Prop} {X Y : World} {b : Nat} {v : Value} (h : Bxv X b v) (f : Fr S X Y) (hn : ¬ S b) : Bxv Y b v :=
  ⟨(f.cell (a := ⟨b, 0, none⟩) h.lt hn).trans h.1, (f.frozen (a := ⟨b, 0, none⟩) h.lt hn).trans h.2⟩
theorem Bxv.new (X : World) (v : Value) (t : TypeId) : Bxv (X.alloc (.cells #[v] t)) X.heap.size v := by
  have hg := heap_alloc_new X (.cells #[v] t)
  refine ⟨?_, ?_⟩
  · simp only [World.cell?, hg]; rfl
  · simp only [World.frozen?, hg]; rfl
theorem Bxv.new' (X : World) (v : Value) (t : TypeId) {n : Nat} (hn : X.heap.size = n) : Bxv (X.alloc (.cells #[v] t)) n v := hn ▸ Bxv.new X v t
theorem Bxv.set {X : World} {b : Nat} {v : Value} (h : Bxv X b v) (u : Value) : Bxv (X.setCell ⟨b, 0, none⟩ u) b u :=
  ⟨World.cell?_setCell_same' _ _ _ (by rw [h.1]; rfl), by rw [World.frozen?_setCell]; exact h.2⟩
/-- What was met (a map, block Z, in the box Z + 1) and what is left (a list, in the box Z + 2). -/
structure ML (X : World) (Z : Nat) (met left : List Spot) (lv : Value) : Prop where
  bm : Bxv X (Z + 1) (.map (some Z))
  ms : MS X Z met
  bl : Bxv X (Z + 2) lv
  lf : Ro X 2 lv left.length (flt enI left)
  own : ∀ k, lv.ownBlock = some k → Z + 3 ≤ k
/-- What meet may turn. -/
def mtS (Z : Nat) (lv : Value) (k : Nat) : Prop := k = Z ∨ k = Z + 2 ∨ lv.ownBlock = some k
theorem ML.keep {S : Nat → Prop} {X Y : World} {Z : Nat} {met left : List Spot} {lv : Value} (h : ML X Z met left lv) (f : Fr S X Y) (h0 : ¬ S Z) (h1 : ¬ S (Z + 1)) (h2 : ¬ S (Z + 2)) (h3 : ∀ k, lv.ownBlock = some k → ¬ S k) : ML Y Z met left lv :=
  ⟨h.bm.keep f h1, h.ms.keep (f.block Z h.ms.lt h0), h.bl.keep f h2, h.lf.fr f h3, h.own⟩
/-- met, with a spot more if it is new; left likewise. -/
noncomputable def mtM (met : List Spot) (s : Spot) : List Spot := open Classical in if s ∈ met then met else s :: met
noncomputable def mtL (met left : List Spot) (s : Spot) : List Spot := open Classical in if s ∈ met then left else left ++ [s]

theorem wpList_appS {w : World} {ops : Array Oper} {rest : List Oper} {o : Oper} {a : Act} {Q : Exit → Act → World → Prop}
    (hg : o.guard = none) (s x : Operand) (hop : o.op = Op.call { callee := Callee.builtin Builtin.append, args := #[s, x], argTypes := #[240, 240] })
    (v : Value) (l : List Spot) (hs : a.eval s = v) (hr : Ro w 2 v l.length (flt enI l)) (ad : Addr) (c : Nat) (p : Spot) (hx : a.eval x = .slice (some ad) 1 c) (hc : ∀ j u, [Value.int .i64 p.1, .int .i64 p.2][j]? = some u → w.cell? (ad.add j) = some u)
    (hN : l.length < 1000000000)
    (hK : ∀ v' w', Ro w' 2 v' (l.length + 1) (flt enI l ++ enI p) → w.grownBy w' v.ownBlock → (v'.ownBlock = v.ownBlock ∨ v'.ownBlock = some w.heap.size) → wpList Tryz.prog ops Q rest (a.put o.dst v') w') :
    wpList Tryz.prog ops Q (o :: rest) a w := by
  obtain ⟨i0, hi0, hz0, hz1, hz2⟩ := info_parts Tryz.info242
  exact wpList_app hg s x 240 hop 242 i0 _ 2 16 Tryz.underlying240 hi0 hz0 hz1 hz2 rfl (by decide) v l.length (flt enI l) hs hr ad 1 c [.int .i64 p.1, .int .i64 p.2] hx rfl hc (by simp [Value.oneCell']) (by omega) (by unfold maxLen; omega) (by omega) hK

/-- The spot is laid into what is left. -/
theorem meet_push {X W3 Y : World} {Z : Nat} {met left : List Spot} {lv lv' : Value} {s : Spot} {o : Obj} (b1 : Bxv W3 (Z + 1) (.map (some Z))) (b2 : Bxv W3 (Z + 2) lv) (hms : MS W3 Z met) (own : ∀ k, lv.ownBlock = some k → Z + 3 ≤ k) (f3 : Fr (fun k => k = Z) X W3)
    (hr : Ro Y 2 lv' (left.length + 1) (flt enI left ++ enI s)) (hg : (W3.alloc o).grownBy Y lv.ownBlock) (hat : lv'.ownBlock = lv.ownBlock ∨ lv'.ownBlock = some (W3.heap.size + 1)) :
    Hid (ML (Y.setCell ⟨Z + 2, 0, none⟩ lv') Z met (left ++ [s]) lv') ∧ Hid (Fr (mtS Z lv) X (Y.setCell ⟨Z + 2, 0, none⟩ lv')) ∧ Hid (lv'.ownBlock = lv.ownBlock ∨ ∀ k, lv'.ownBlock = some k → X.heap.size ≤ k) ∧ Bxv Y (Z + 2) lv := by
  have fy : Fr (fun k => lv.ownBlock = some k) W3 Y := ((Fr.refl _ W3).alloc o).grown hg (fun k e => .inr e)
  have fz : Fr (fun k => k = Z + 2) Y (Y.setCell ⟨Z + 2, 0, none⟩ lv') := (Fr.refl (fun k => k = Z + 2) Y).setCell ⟨Z + 2, 0, none⟩ (.inr rfl) _
  have hs3 := f3.size
  have hz := b2.lt
  have own' : ∀ k, lv'.ownBlock = some k → Z + 3 ≤ k := fun k hk => by
    rcases hat with q | q
    · exact own k (q ▸ hk)
    · rw [q] at hk; cases hk; omega
  have b2Y : Bxv Y (Z + 2) lv := b2.keep fy (fun e => by have := own _ e; omega)
  refine ⟨⟨(b1.keep fy (fun e => by have := own _ e; omega)).keep fz (by show ¬ Z + 1 = Z + 2; omega), (hms.keep (fy.block Z hms.lt (fun e => by have := own _ e; omega))).keep (fz.block Z (Nat.lt_of_lt_of_le hms.lt fy.size) (by show ¬ Z = Z + 2; omega)), b2Y.set _, ?_, own'⟩, ?_, ?_, b2Y⟩
  · rw [List.length_append, flt_append, flt_one]
    exact hr.fr fz (fun k hk e => by have := own' k hk; omega)
  · exact ((f3.mono (fun k _ e => .inl e)).trans (fy.mono (fun k _ e => .inr (.inr e)))).trans (fz.mono (fun k _ e => .inr (.inl e)))
  · rcases hat with q | q
    · exact .inl q
    · refine .inr (fun k hk => ?_)
      rw [q] at hk; cases hk; omega
set_option maxRecDepth 100000 in
set_option maxHeartbeats 3200000 in
theorem meet_any {X : World} {Z : Nat} {met left : List Spot} {lv : Value} (pc ht : Int) (hok : OkS (pc, ht)) (h : ML X Z met left lv) (hl : left.length < 1000000000) (hm : met.length < 1000000000) :
    Calls Tryz.prog 149 #[.int .i64 pc, .int .i64 ht, .pointer (some ⟨Z + 1, 0, none⟩), .pointer (some ⟨Z + 2, 0, none⟩)] X fun e X' => (∃ v, e = .returned v) ∧ ∃ lv', ML X' Z (mtM met (pc, ht)) (mtL met left (pc, ht)) lv' ∧ Fr (mtS Z lv) X X' ∧ (lv'.ownBlock = lv.ownBlock ∨ ∀ k, lv'.ownBlock = some k → X.heap.size ≤ k) := by
  obtain ⟨W1, eW1⟩ : ∃ W1, W1 = X.alloc (.cells #[.int .i64 pc, .int .i64 ht] 242) := ⟨_, rfl⟩
  have f1 : Fr (fun _ => False) X W1 := by rw [eW1]; exact (Fr.refl _ X).alloc _
  have m1 : ML W1 Z met left lv := h.keep f1 (fun e => e) (fun e => e) (fun e => e) (fun _ _ e => e)
  have hlk := m1.ms.look (pc, ht) hok
  have cm := h.bm.1
  have lm := h.bm.lt
  have hZX := h.bl.lt
  obtain ⟨va, vc, ev, _, _⟩ := h.lf.shape
  by_cases hin : (pc, ht) ∈ met
  · have e1 : mtM met (pc, ht) = met := if_pos hin
    have e2 : mtL met left (pc, ht) = left := if_pos hin
    rw [e1, e2]
    have hd : decide ((pc, ht) ∈ met) = true := decide_eq_true hin
    simp only [hd] at hlk
    have HH := hide h
    rw [eW1] at hlk
    clear f1 m1 eW1 W1 h
    go_enter Tryz.func149, Tryz.ntmps149
    go_wp2_with fail
    go_end0
    have f2 : Fr (fun _ => False) X ((X.alloc (.cells #[.int .i64 pc, .int .i64 ht] 242)).alloc (.cells #[] 243)) := ((Fr.refl _ X).alloc _).alloc _
    exact ⟨⟨_, rfl⟩, lv, (unhide HH).keep f2 (fun e => e) (fun e => e) (fun e => e) (fun _ _ e => e), f2.mono (fun _ _ e => e.elim), .inl rfl⟩
  · have e1 : mtM met (pc, ht) = (pc, ht) :: met := if_neg hin
    have e2 : mtL met left (pc, ht) = left ++ [(pc, ht)] := if_neg hin
    rw [e1, e2]
    have hd : decide ((pc, ht) ∈ met) = false := decide_eq_false hin
    simp only [hd] at hlk
    obtain ⟨W2, eW2⟩ : ∃ W2, W2 = W1.alloc (.cells #[] 243) := ⟨_, rfl⟩
    have f2 : Fr (fun _ => False) X W2 := by rw [eW2]; exact f1.alloc _
    have m2 : ML W2 Z met left lv := h.keep f2 (fun e => e) (fun e => e) (fun e => e) (fun _ _ e => e)
    obtain ⟨W3, hput, hms, hgr⟩ := m2.ms.put (pc, ht) hok (by unfold maxLen; omega)
    have f23 : Fr (fun k => k = Z) W2 W3 := (Fr.refl _ W2).grown hgr (fun k e => by cases e; exact .inr rfl)
    have f3 : Fr (fun k => k = Z) X W3 := (f2.mono (fun _ _ e => e.elim)).trans f23
    have b2 : Bxv W3 (Z + 2) lv := m2.bl.keep f23 (by show ¬ Z + 2 = Z; omega)
    have r3 : Ro W3 2 lv left.length (flt enI left) := m2.lf.fr f23 (fun k hk e => by have := h.own k hk; omega)
    have b1 : Bxv W3 (Z + 1) (.map (some Z)) := m2.bm.keep f23 (by show ¬ Z + 1 = Z; omega)
    have hW1s : W1.heap.size = X.heap.size + 1 := by rw [eW1]; simp
    have nc := fun j z (hz : #[Value.int .i64 pc, .int .i64 ht].toList[j]? = some z) => new_cells X #[.int .i64 pc, .int .i64 ht] 242 j z hz
    have x0 : W3.cell? ⟨X.heap.size, 0, none⟩ = some (.int .i64 pc) := by
      have := nc 0 _ rfl; rw [Go.WideShapes.add_plain, ← eW1] at this
      have k2 : W2.cell? ⟨X.heap.size, 0, none⟩ = some (.int .i64 pc) := (((Fr.refl (fun _ => False) W1).alloc (.cells #[] 243)).cell (a := ⟨X.heap.size, 0, none⟩) (by show X.heap.size < _; omega) (fun e => e)).trans this |> fun q => by rw [eW2]; exact q
      exact (f23.cell (a := ⟨X.heap.size, 0, none⟩) (World.block_lt_of_cell? _ _ k2) (by show ¬ X.heap.size = Z; omega)).trans k2
    have x1 : W3.cell? ⟨X.heap.size, 1, none⟩ = some (.int .i64 ht) := by
      have := nc 1 _ rfl; rw [Go.WideShapes.add_plain, ← eW1] at this
      have k2 : W2.cell? ⟨X.heap.size, 1, none⟩ = some (.int .i64 ht) := (((Fr.refl (fun _ => False) W1).alloc (.cells #[] 243)).cell (a := ⟨X.heap.size, 1, none⟩) (by show X.heap.size < _; omega) (fun e => e)).trans this |> fun q => by rw [eW2]; exact q
      exact (f23.cell (a := ⟨X.heap.size, 1, none⟩) (World.block_lt_of_cell? _ _ k2) (by show ¬ X.heap.size = Z; omega)).trans k2
    have xl : X.heap.size < W3.heap.size := World.block_lt_of_cell? _ _ x0
    have cm2 := m2.bm.1
    have y0 : W2.cell? ⟨X.heap.size, 0, none⟩ = some (.int .i64 pc) := by
      have := nc 0 _ rfl; rw [Go.WideShapes.add_plain, ← eW1] at this
      exact (((Fr.refl (fun _ => False) W1).alloc (.cells #[] 243)).cell (a := ⟨X.heap.size, 0, none⟩) (by show X.heap.size < _; omega) (fun e => e)).trans this |> fun q => by rw [eW2]; exact q
    have y1 : W2.cell? ⟨X.heap.size, 1, none⟩ = some (.int .i64 ht) := by
      have := nc 1 _ rfl; rw [Go.WideShapes.add_plain, ← eW1] at this
      exact (((Fr.refl (fun _ => False) W1).alloc (.cells #[] 243)).cell (a := ⟨X.heap.size, 1, none⟩) (by show X.heap.size < _; omega) (fun e => e)).trans this |> fun q => by rw [eW2]; exact q
    have c2 := b2.1
    have fz2 := b2.2
    have lz2 := b2.lt
    have HF3 := hide f3
    have HR3 := hide r3
    have HB1 := hide b1
    have HB2 := hide b2
    have HMS := hide hms
    have HOW := hide h.own
    rw [eW2, eW1] at hput cm2 y0 y1
    rw [eW1] at hlk
    subst ev
    clear f1 m1 h m2 hms hgr f23 f3 b2 r3 b1 hW1s nc f2 eW2 W2 eW1 W1
    go_enter Tryz.func149, Tryz.ntmps149
    go_wp2_with (first | (at_builtin; refine wpList_appS rfl _ _ rfl (.slice va left.length vc) left rfl ((unhide HR3).keep (fun g hg => Below.heap_alloc _ _ _ ((unhide HR3).lt g hg))) ⟨W3.heap.size, 0, none⟩ 1 (pc, ht) rfl (new_cells _ #[_, _] _) hl ?_; intro v' w' hr hg hat; obtain ⟨va', vc', ev', _, _⟩ := hr.shape; subst ev'; obtain ⟨P1, P2, P3, P4⟩ := meet_push (unhide HB1) (unhide HB2) (unhide HMS) (unhide HOW) (unhide HF3) hr hg (by simpa using hat); have k1 := P4.1; have k2 := P4.2; clear hr hg hat P4))

    go_end0
    exact ⟨⟨_, rfl⟩, _, unhide P1, unhide P2, unhide P3⟩

set_option linter.unusedVariables false
set_option linter.unusedSimpArgs false
/-- Does a handler hold a place? -/
def hol (h : Hd) (pc : Int) : Bool := decide (h.frm ≤ pc) && decide (pc < h.to)
def tgt (h : Hd) : Spot := (h.target, h.height + 1)
noncomputable def wkM (pc : Int) (met : List Spot) (h : Hd) : List Spot := if hol h pc then mtM met (tgt h) else met
noncomputable def wkL (pc : Int) (met left : List Spot) (h : Hd) : List Spot := if hol h pc then mtL met left (tgt h) else left
abbrev fM (Z : Nat) : Value := .func (.func 149) #[] #[.pointer (some ⟨Z + 1, 0, none⟩), .pointer (some ⟨Z + 2, 0, none⟩)]
/-- The new list of what is left lies where the old one lay, or is new. -/
def nwL (X : World) (lv lv' : Value) : Prop := lv'.ownBlock = lv.ownBlock ∨ ∀ k, lv'.ownBlock = some k → X.heap.size ≤ k
theorem Fr.step {S T : Nat → Prop} {a b c : World} (h : Fr S a b) (k : Fr T b c) (hs : ∀ i, i < a.heap.size → T i → S i) : Fr S a c :=
  ⟨k.os.trans h.os, k.tape.trans h.tape, k.output.trans h.output, Nat.le_trans h.size k.size,
    fun i hi hn => (k.block i (Nat.lt_of_lt_of_le hi h.size) (fun e => hn (hs i hi e))).trans (h.block i hi hn)⟩
theorem nwL.mtS {X : World} {Z : Nat} {lv lv' : Value} (h : nwL X lv lv') : ∀ i, i < X.heap.size → mtS Z lv' i → mtS Z lv i := fun i hi e => by
  rcases e with e | e | e
  · exact .inl e
  · exact .inr (.inl e)
  · rcases h with q | q
    · exact .inr (.inr (by rw [← q]; exact e))
    · have := q i e; omega
theorem nwL.trans {X Y : World} {a b c : Value} (h : nwL X a b) (k : nwL Y b c) (hs : X.heap.size ≤ Y.heap.size) : nwL X a c := by
  rcases k with q | q
  · rcases h with q2 | q2
    · exact .inl (q.trans q2)
    · exact .inr (fun i hi => q2 i (by rw [← q]; exact hi))
  · exact .inr (fun i hi => Nat.le_trans hs (q i hi))
def OkHv (h : Hd) : Prop := -9000000000000000000 ≤ h.target ∧ h.target < 9000000000000000000 ∧ -9000000000000000000 ≤ h.height ∧ h.height < 9000000000000000000
theorem OkHv.tgt {h : Hd} (hk : OkHv h) : OkS (tgt h) := by
  obtain ⟨h1, h2, h3, h4⟩ := hk
  exact OkS.of (by show _ ≤ h.target; omega) (by show h.target < _; omega) (by show _ ≤ h.height + 1; omega) (by show h.height + 1 < _; omega)

set_option maxRecDepth 100000 in
set_option maxHeartbeats 3200000 in
theorem wake1_any {X : World} {Z pb qb : Nat} {met left : List Spot} {lv : Value} (pc : Int) (h : Hd) (hk : OkHv h) (hM : ML X Z met left lv) (hp : Bxv X pb (.int .i64 pc)) (hq : Bxv X qb (fM Z)) (hl : left.length < 1000000000) (hm : met.length < 1000000000) :
    Calls Tryz.prog 191 #[.agg #[.int .i64 h.frm, .int .i64 h.to, .int .i64 h.target, .int .i64 h.height], .pointer (some ⟨pb, 0, none⟩), .pointer (some ⟨qb, 0, none⟩)] X fun e X' => e = .returned (.bool (hol h pc)) ∧ ∃ lv', ML X' Z (wkM pc met h) (wkL pc met left h) lv' ∧ Fr (mtS Z lv) X X' ∧ nwL X lv lv' := by
  obtain ⟨fr, to, tg, ht⟩ := h
  obtain ⟨W1, eW1⟩ : ∃ W1, W1 = X.alloc (.cells #[.int .i64 fr, .int .i64 to, .int .i64 tg, .int .i64 ht] 112) := ⟨_, rfl⟩
  have f1 : Fr (fun _ => False) X W1 := by rw [eW1]; exact (Fr.refl _ X).alloc _
  have m1 : ML W1 Z met left lv := hM.keep f1 (fun e => e) (fun e => e) (fun e => e) (fun _ _ e => e)
  have HMT := hide (meet_any tg (ht + 1) hk.tgt m1 hl hm)
  have cp := hp.1
  have lp := hp.lt
  have cq := hq.1
  have lq := hq.lt
  have hwr : IntKind.i64.wrap (ht + 1) = ht + 1 := by obtain ⟨_, _, h3, h4⟩ := hk; simp only at h3 h4; go_arith
  have HMX := hide hM
  have HF1 := hide f1
  rw [eW1] at HMT HF1
  simp only
  clear hM f1 m1 eW1 W1 hp hq
  by_cases h1 : fr ≤ pc
  · by_cases h2 : pc < to
    · have hh : hol ⟨fr, to, tg, ht⟩ pc = true := by simp [hol, h1, h2]
      have e1 : wkM pc met ⟨fr, to, tg, ht⟩ = mtM met (tg, ht + 1) := by unfold wkM; rw [hh]; rfl
      have e2 : wkL pc met left ⟨fr, to, tg, ht⟩ = mtL met left (tg, ht + 1) := by unfold wkL; rw [hh]; rfl
      rw [hh, e1, e2]
      clear hh e1 e2
      go_enter Tryz.func191, Tryz.ntmps191
      go_wp2_with fail
      refine (unhide HMT).mono ?_
      rintro e X2 ⟨⟨v, rfl⟩, lv', hM2, hF2, hN2⟩
      have HM2 := hide hM2
      have HF2 := hide hF2
      have HN2 := hide hN2
      clear hM2 hF2 hN2 HMT
      go_wp2_with fail
      go_ret
      refine ⟨rfl, lv', unhide HM2, ((unhide HF1).mono (fun _ _ e => e.elim)).trans (unhide HF2), ?_⟩
      exact (unhide HN2).elim .inl (fun q => .inr (fun k hk => Nat.le_trans (unhide HF1).size (q k hk)))
    · have hh : hol ⟨fr, to, tg, ht⟩ pc = false := by simp [hol, h2]
      have e1 : wkM pc met ⟨fr, to, tg, ht⟩ = met := by unfold wkM; rw [hh]; rfl
      have e2 : wkL pc met left ⟨fr, to, tg, ht⟩ = left := by unfold wkL; rw [hh]; rfl
      rw [hh, e1, e2]
      clear hh e1 e2 HMT
      go_enter Tryz.func191, Tryz.ntmps191
      go_wp2_with fail
      go_ret
      exact ⟨rfl, lv, (unhide HMX).keep (unhide HF1) (fun e => e) (fun e => e) (fun e => e) (fun _ _ e => e), (unhide HF1).mono (fun _ _ e => e.elim), .inl rfl⟩
  · have hh : hol ⟨fr, to, tg, ht⟩ pc = false := by simp [hol, h1]
    have e1 : wkM pc met ⟨fr, to, tg, ht⟩ = met := by unfold wkM; rw [hh]; rfl
    have e2 : wkL pc met left ⟨fr, to, tg, ht⟩ = left := by unfold wkL; rw [hh]; rfl
    rw [hh, e1, e2]
    clear hh e1 e2 HMT
    go_enter Tryz.func191, Tryz.ntmps191
    go_wp2_with fail
    go_ret
    exact ⟨rfl, lv, (unhide HMX).keep (unhide HF1) (fun e => e) (fun e => e) (fun e => e) (fun _ _ e => e), (unhide HF1).mono (fun _ _ e => e.elim), .inl rfl⟩

abbrev fW (pb qb : Nat) : Value := .func (.func 191) #[] #[.pointer (some ⟨pb, 0, none⟩), .pointer (some ⟨qb, 0, none⟩)]
/-- Where a handler that holds the place stands first. -/
def ixh (pc : Int) (hs : List Hd) : Int := match hs.findIdx? (fun h => hol h pc) with | some i => (i : Int) | none => -1
theorem ixh_hit {pc : Int} {xs : List Hd} {i : Nat} {h : Hd} (hx : xs[i]? = some h) (hh : hol h pc = true) (hno : ∀ j y, j < i → xs[j]? = some y → hol y pc = false) : ixh pc xs = (i : Int) := by
  unfold ixh
  have : xs.findIdx? (fun h => hol h pc) = some i := by
    rw [List.findIdx?_eq_some_iff_getElem]
    obtain ⟨hi, e⟩ := List.getElem?_eq_some_iff.1 hx
    refine ⟨hi, by rw [e]; exact hh, fun j hj => ?_⟩
    have := hno j _ hj (List.getElem?_eq_getElem (by omega))
    simp [this]
  rw [this]
theorem ixh_miss {pc : Int} {xs : List Hd} (hno : ∀ j y, j < xs.length → xs[j]? = some y → hol y pc = false) : ixh pc xs = -1 := by
  unfold ixh
  have : xs.findIdx? (fun h => hol h pc) = none := by
    rw [List.findIdx?_eq_none_iff]
    intro y hy
    obtain ⟨j, hj, e⟩ := List.getElem_of_mem hy
    have := hno j y hj (by rw [← e]; exact List.getElem?_eq_getElem hj)
    simp [this]
  rw [this]
/-- The state on the way. -/
structure WkS (X : World) (Z pb qb : Nat) (pc : Int) (met left : List Spot) (lv0 lv : Value) (X0 : World) : Prop where
  ml : ML X Z met left lv
  fr : Fr (mtS Z lv0) X0 X
  nw : nwL X0 lv0 lv
  bp : Bxv X pb (.int .i64 pc)
  bq : Bxv X qb (fM Z)
set_option maxRecDepth 100000 in
set_option maxHeartbeats 3200000 in
theorem ixFunc_any {X : World} {Z pb qb : Nat} {met left : List Spot} {lv iv : Value} {hs : List Hd} (pc : Int) (hM : ML X Z met left lv) (hp : Bxv X pb (.int .i64 pc)) (hq : Bxv X qb (fM Z)) (hi : Ro X 4 iv hs.length (flt enH hs)) (hk : ∀ h ∈ hs, OkHv h)
    (np : ¬ mtS Z lv pb) (nq : ¬ mtS Z lv qb) (ni : ∀ k, iv.ownBlock = some k → ¬ mtS Z lv k) (hl : left.length < 1000000000) (hm : met.length < 1000000000) :
    Calls Tryz.prog 208 #[iv, fW pb qb] X fun e X' => e = .returned (.int .i64 (ixh pc hs)) ∧ ∃ lv', Fr (mtS Z lv) X X' ∧ nwL X lv lv' ∧ ((∀ h ∈ hs, hol h pc = false) ∧ ML X' Z met left lv' ∨ ∃ (i : Nat) (h : Hd), hs[i]? = some h ∧ ixh pc hs = (i : Int) ∧ hol h pc = true ∧ (∀ (j : Nat) (y : Hd), j < i → hs[j]? = some y → hol y pc = false) ∧ ML X' Z (wkM pc met h) (wkL pc met left h) lv') := by
  have HI := hide (fun i h (hx : hs[i]? = some h) => Rx.elem zH (Rx.of_ro hi) hx)
  obtain ⟨ia, ic, rfl, _, icm⟩ := hi.shape
  obtain ⟨L, hL⟩ : ∃ L, Hid (hs.length = L) := ⟨_, rfl⟩
  have hLm : L ≤ maxLen := by rw [← unhide hL]; omega
  unfold maxLen at hLm
  have HNI := hide ni
  have HK := hide hk
  have H0 : Hid (WkS X Z pb qb pc met left lv lv X) := ⟨hM, Fr.refl _ _, .inl rfl, hp, hq⟩
  obtain ⟨R, hR⟩ : ∃ R, Hid (ixh pc hs = R) := ⟨_, rfl⟩
  rw [unhide hR]
  rw [unhide hL] at HI HNI ⊢
  have HNP := hide np
  have HNQ := hide nq
  have HPL := hide hp.lt
  have HQL := hide hq.lt
  clear hM hp hq hi hk ni np nq icm
  go_enter Tryz.func208, Tryz.ntmps208
  go_wp2_with fail
  go_loopg [5, 8] L (fun gg t5 t8 wr => ∃ (i : Nat) (u : Value), Hid (i + gg = L) ∧ t5 = u ∧ t8 = .int .i64 (i : Int) ∧ Hid (∀ j y, j < i → hs[j]? = some y → hol y pc = false) ∧ Hid (∃ lv1, WkS wr Z pb qb pc met left lv lv1 X))
  case atStart => exact ⟨0, _, by unfold Hid; omega, rfl, rfl, by unfold Hid; intro j y hj; omega, lv, H0⟩
  case round =>
    obtain ⟨i, u, hi, rfl, rfl, hno, hW⟩ := hrel
    obtain ⟨lv1, hW1⟩ := unhide hW
    by_cases hlt : i < L
    · obtain ⟨h, hx⟩ : ∃ h, hs[i]? = some h := ⟨_, List.getElem?_eq_getElem (by rw [unhide hL]; exact hlt)⟩
      obtain ⟨b, off, c', e, _, _, hb, hc⟩ := unhide HI i h hx
      cases e
      have nb : ¬ mtS Z lv b := unhide HNI b rfl
      have k0 := (hW1.fr.cell (a := ⟨b, off + i * 4 + 0, none⟩) hb nb).trans (hc 0 _ rfl)
      have k1 := (hW1.fr.cell (a := ⟨b, off + i * 4 + 1, none⟩) hb nb).trans (hc 1 _ rfl)
      have k2 := (hW1.fr.cell (a := ⟨b, off + i * 4 + 2, none⟩) hb nb).trans (hc 2 _ rfl)
      have k3 := (hW1.fr.cell (a := ⟨b, off + i * 4 + 3, none⟩) hb nb).trans (hc 3 _ rfl)
      rw [Nat.add_zero] at k0
      have hbr := Nat.lt_of_lt_of_le hb hW1.fr.size
      have i0 : (0 : Int) ≤ (i : Int) := by omega
      have i1 : (i : Int) < (L : Int) := by omega
      have HX := hide hx
      have HC := hide (wake1_any pc h (unhide HK h (List.mem_of_getElem? hx)) hW1.ml hW1.bp hW1.bq hl hm)
      have HW1 := hide hW1
      clear hc hx hW1 nb hW
      go_wp2_with fail
      refine (unhide HC).mono ?_
      rintro e X2 ⟨rfl, lv2, hM2, hF2, hN2⟩
      have hW1 := unhide HW1
      have hF3 : Fr (mtS Z lv) X X2 := hW1.fr.step hF2 hW1.nw.mtS
      have hN3 : nwL X lv lv2 := hW1.nw.trans hN2 hW1.fr.size
      have hp3 : Bxv X2 pb (.int .i64 pc) := hW1.bp.keep hF2 (fun e => unhide HNP (hW1.nw.mtS pb (unhide HPL) e))
      have hq3 : Bxv X2 qb (fM Z) := hW1.bq.keep hF2 (fun e => unhide HNQ (hW1.nw.mtS qb (unhide HQL) e))
      have HM2 := hide hM2
      have HF3 := hide hF3
      have HN3 := hide hN3
      have HB3 := hide (And.intro hp3 hq3)
      clear hM2 hF2 hN2 hF3 hN3 hp3 hq3 hW1 HC k0 k1 k2 k3
      cases hh : hol h pc with
      | true =>
        have hRi : R = (i : Int) := by rw [← unhide hR]; exact ixh_hit (unhide HX) hh (unhide hno)
        subst hRi
        have HH := hide hh
        clear hh
        go_wp2_with fail
        go_ret
        exact ⟨rfl, lv2, unhide HF3, unhide HN3, .inr ⟨i, h, unhide HX, rfl, unhide HH, unhide hno, unhide HM2⟩⟩
      | false =>
        have HH := hide hh
        have e1 : wkM pc met h = met := by unfold wkM; rw [hh]; rfl
        have e2 : wkL pc met left h = left := by unfold wkL; rw [hh]; rfl
        rw [e1, e2] at HM2
        clear hh e1 e2
        go_wp2_with fail
        go_roundg (gk - 1)
        case measure => have := unhide hi; omega
        case rel => exact ⟨i + 1, _, by have := unhide hi; unfold Hid; omega, rfl, by go_num, by
          unfold Hid
          intro j y hj hy
          by_cases q : j = i
          · subst q; rw [unhide HX] at hy; cases hy; exact unhide HH
          · exact unhide hno j y (by omega) hy, lv2, ⟨unhide HM2, unhide HF3, unhide HN3, (unhide HB3).1, (unhide HB3).2⟩⟩
    · have hall : ∀ h ∈ hs, hol h pc = false := fun h hm => by
        obtain ⟨j, hj, e⟩ := List.getElem_of_mem hm
        exact unhide hno j h (by have := unhide hi; rw [unhide hL] at hj; omega) (by rw [← e]; exact List.getElem?_eq_getElem hj)
      have hRi : R = -1 := by rw [← unhide hR]; exact ixh_miss (fun j y hj hy => hall y (List.mem_of_getElem? hy))
      subst hRi
      have i1 : ¬ (i : Int) < (L : Int) := by omega
      have HALL := hide hall
      have HW1 := hide hW1
      clear hall hW1 hW
      go_wp2_with fail
      go_ret
      exact ⟨rfl, (unhide HW1).fr, lv1, (unhide HW1).nw, unhide HALL, (unhide HW1).ml⟩

set_option linter.unusedVariables false
set_option linter.unusedSimpArgs false
/-- The cells of so many zero handlers. -/
def zrH (m : Nat) : List Value := (Builtin.zeroCells (.agg #[.int .i64 0, .int .i64 0, .int .i64 0, .int .i64 0] : Value).cells m).toList
theorem zrH_length (m : Nat) : (zrH m).length = m * 4 := by
  unfold zrH
  rw [Array.length_toList, size_zeroCells]
  rfl
theorem zrH_one (m : Nat) : ∀ v ∈ zrH m, v.oneCell' = true := by
  intro v hv
  unfold zrH Builtin.zeroCells at hv
  simp [Value.cells] at hv
  obtain ⟨a, _, rfl⟩ := hv
  have h4 : a % 4 = 0 ∨ a % 4 = 1 ∨ a % 4 = 2 ∨ a % 4 = 3 := by omega
  rcases h4 with q | q | q | q <;> rw [q] <;> rfl
theorem clear4 (w : World) (b o m c : Nat) (hm : 0 < m) (hc : ∀ j, j < m * 4 → (w.cell? ⟨b, o + j, none⟩).isSome = true ∧ w.frozen? ⟨b, o + j, none⟩ = false) (ty : TypeId) :
    (Builtin.clear_ #[71] ty #[.slice (some ⟨b, o, none⟩) m c]).run Tryz.prog w = .ok (.tuple #[]) (w.setCells b o (zrH m)) := by
  have hst := run_storeCells_cells (P := Tryz.prog) b o (zrH m) 0 w (by rw [zrH_length]; simpa using fun j hj => (hc j hj).1) (by rw [zrH_length]; simpa using fun j hj => (hc j hj).2) (zrH_one m)
  simp only [Nat.add_zero] at hst
  unfold zrH at hst ⊢
  cases m with
  | zero => omega
  | succ m => simp [Builtin.clear_, run_underlying Tryz.underlying71, hst]
/-- All handlers asked, one behind the other. -/
noncomputable def wkF (pc : Int) (hs : List Hd) (p : List Spot × List Spot) : List Spot × List Spot := hs.foldl (fun p h => (wkM pc p.1 h, wkL pc p.1 p.2 h)) p
theorem wkF_push (pc : Int) {hs : List Hd} {j : Nat} {h : Hd} (hh : hs[j]? = some h) (p : List Spot × List Spot) : wkF pc (hs.take (j + 1)) p = (wkM pc (wkF pc (hs.take j) p).1 h, wkL pc (wkF pc (hs.take j) p).1 (wkF pc (hs.take j) p).2 h) := by
  rw [take_push hh]; simp [wkF, List.foldl_append]
theorem wkF_skip {pc : Int} {hs : List Hd} (h : ∀ x ∈ hs, hol x pc = false) (p : List Spot × List Spot) : wkF pc hs p = p := by
  unfold wkF
  induction hs generalizing p with
  | nil => rfl
  | cons x r ih =>
    have hx := h x (by simp)
    rw [List.foldl_cons]
    have e : (wkM pc p.1 x, wkL pc p.1 p.2 x) = p := by unfold wkM wkL; rw [hx]; simp
    rw [e]
    exact ih (fun y hy => h y (by simp [hy])) p
theorem mtM_length (met : List Spot) (s : Spot) : (mtM met s).length ≤ met.length + 1 := by unfold mtM; split <;> simp
theorem mtL_length (met left : List Spot) (s : Spot) : (mtL met left s).length ≤ left.length + 1 := by unfold mtL; split <;> simp
theorem wkM_length (pc : Int) (met : List Spot) (h : Hd) : (wkM pc met h).length ≤ met.length + 1 := by
  unfold wkM
  split
  · exact mtM_length _ _
  · omega
theorem wkL_length (pc : Int) (met left : List Spot) (h : Hd) : (wkL pc met left h).length ≤ left.length + 1 := by
  unfold wkL
  split
  · exact mtL_length _ _ _
  · omega
theorem wkF_length (pc : Int) (hs : List Hd) : ∀ p, (wkF pc hs p).1.length ≤ p.1.length + hs.length ∧ (wkF pc hs p).2.length ≤ p.2.length + hs.length := by
  unfold wkF
  induction hs with
  | nil => intro p; simp
  | cons x r ih =>
    intro p
    rw [List.foldl_cons]
    have h1 := ih (wkM pc p.1 x, wkL pc p.1 p.2 x)
    have h2 := wkM_length pc p.1 x
    have h3 := wkL_length pc p.1 p.2 x
    simp only [List.length_cons] at h1 ⊢
    omega
/-- Those that do not hold the place. -/
def idl (pc : Int) (hs : List Hd) : List Hd := hs.filter (fun h => !hol h pc)
theorem idl_push (pc : Int) {hs : List Hd} {j : Nat} {h : Hd} (hh : hs[j]? = some h) : idl pc (hs.take (j + 1)) = if hol h pc then idl pc (hs.take j) else idl pc (hs.take j) ++ [h] := by
  rw [take_push hh]
  unfold idl
  rw [List.filter_append]
  cases e : hol h pc <;> simp [e]
theorem idl_all {pc : Int} {hs : List Hd} (h : ∀ x ∈ hs, hol x pc = false) : idl pc hs = hs := by
  unfold idl
  rw [List.filter_eq_self]
  intro x hx
  simp [h x hx]
/-- One handler is written over. -/
theorem Ro.putH {w : World} {n : Nat} {xs : List Hd} {g off cap : Nat} (h : Ro w 4 (.slice (some ⟨g, off, none⟩) n cap) n (flt enH xs)) (hn : xs.length = n) {i : Nat} (hi : i < n) (x : Hd) :
    Ro (w.setCells g (off + i * 4) (enH x)) 4 (.slice (some ⟨g, off, none⟩) n cap) n (flt enH (xs.set i x)) := by
  obtain ⟨_, _, e, hc, _⟩ := h.shape
  cases e
  refine (h.sets (v := .slice (some ⟨g, off, none⟩) n cap) rfl (o := off + i * 4) (m := n) (vs := enH x) (ys := flt enH (xs.set i x)) (by omega) (by rw [zH]; omega) hc (by rw [flt_length zH, List.length_set, hn]) (fun j hj => ?_) (fun j hj q => by omega)).1
  rw [flt_set zH xs i x (by omega) j, zH]
  by_cases q : i * 4 ≤ j ∧ j < i * 4 + 4
  · rw [if_pos q, if_pos (by omega)]
    congr 1
    omega
  · rw [if_neg q, if_neg (by omega)]
/-- The state of DeleteFunc: j were asked, i of them stay. -/
structure DlS (X0 : World) (Z pb qb : Nat) (pc : Int) (hs : List Hd) (p : List Spot × List Spot) (lv0 : Value) (g off cap : Nat) (i j : Nat) (ys : List Hd) (lv : Value) (X : World) : Prop where
  ij : i < j
  jn : j ≤ hs.length
  yl : ys.length = hs.length
  yt : ys.take i = idl pc (hs.take j)
  yd : ∀ k, j ≤ k → ys[k]? = hs[k]?
  ro : Ro X 4 (.slice (some ⟨g, off, none⟩) hs.length cap) hs.length (flt enH ys)
  ml : ML X Z (wkF pc (hs.take j) p).1 (wkF pc (hs.take j) p).2 lv
  fr : Fr (fun k => mtS Z lv0 k ∨ k = g) X0 X
  nw : nwL X0 lv0 lv
  bp : Bxv X pb (.int .i64 pc)
  bq : Bxv X qb (fM Z)

set_option linter.unusedVariables false
set_option linter.unusedSimpArgs false
/-- What DeleteFunc leaves. -/
structure DlR (X0 : World) (Z pb qb : Nat) (pc : Int) (hs : List Hd) (p : List Spot × List Spot) (lv0 iv iv' lv : Value) (X : World) : Prop where
  ro : Ro X 4 iv' (idl pc hs).length (flt enH (idl pc hs))
  io : iv'.ownBlock = iv.ownBlock
  ml : ML X Z (wkF pc hs p).1 (wkF pc hs p).2 lv
  fr : Fr (fun k => mtS Z lv0 k ∨ iv.ownBlock = some k) X0 X
  nw : nwL X0 lv0 lv
theorem DlS.first {X0 X : World} {Z pb qb : Nat} {pc : Int} {hs : List Hd} {p : List Spot × List Spot} {lv0 lv : Value} {g off cap i : Nat} {h : Hd} (hx : hs[i]? = some h) (hh : hol h pc = true) (hno : ∀ (j : Nat) (y : Hd), j < i → hs[j]? = some y → hol y pc = false)
    (ro : Ro X 4 (.slice (some ⟨g, off, none⟩) hs.length cap) hs.length (flt enH hs)) (ml : ML X Z (wkM pc p.1 h) (wkL pc p.1 p.2 h) lv) (fr : Fr (fun k => mtS Z lv0 k ∨ k = g) X0 X) (nw : nwL X0 lv0 lv) (bp : Bxv X pb (.int .i64 pc)) (bq : Bxv X qb (fM Z)) :
    DlS X0 Z pb qb pc hs p lv0 g off cap i (i + 1) hs lv X := by
  have hi := (List.getElem?_eq_some_iff.1 hx).1
  have hsk : ∀ x ∈ hs.take i, hol x pc = false := fun x hxm => by
    obtain ⟨j, hj, e⟩ := List.getElem_of_mem hxm
    have hj' : j < i := by simp at hj; omega
    refine hno j x hj' ?_
    rw [← e, List.getElem_take]
    exact List.getElem?_eq_getElem (by omega)
  have e : wkF pc (hs.take (i + 1)) p = (wkM pc p.1 h, wkL pc p.1 p.2 h) := by rw [wkF_push pc hx, wkF_skip hsk]
  refine ⟨by omega, hi, rfl, ?_, fun _ _ => rfl, ro, by rw [e]; exact ml, fr, nw, bp, bq⟩
  rw [idl_push pc hx, if_pos hh, idl_all hsk]
/-- One more was asked. -/
theorem DlS.ask {X0 wr X2 : World} {Z pb qb : Nat} {pc : Int} {hs : List Hd} {p : List Spot × List Spot} {lv0 lv2 lv3 : Value} {g off cap i j : Nat} {ys : List Hd} {o : Obj} (h : DlS X0 Z pb qb pc hs p lv0 g off cap i j ys lv2 wr)
    (hg : g < X0.heap.size) (hpl : pb < X0.heap.size) (hql : qb < X0.heap.size) (ni : ¬ mtS Z lv0 g) (np : ¬ mtS Z lv0 pb) (nq : ¬ mtS Z lv0 qb) (hF : Fr (mtS Z lv2) (wr.alloc o) X2) (hN : nwL (wr.alloc o) lv2 lv3) :
    Hid (Ro X2 4 (.slice (some ⟨g, off, none⟩) hs.length cap) hs.length (flt enH ys)) ∧ Hid (Fr (fun k => mtS Z lv0 k ∨ k = g) X0 X2) ∧ Hid (nwL X0 lv0 lv3) ∧ Hid (Bxv X2 pb (.int .i64 pc)) ∧ Hid (Bxv X2 qb (fM Z)) := by
  have f1 : Fr (mtS Z lv2) wr X2 := ⟨hF.os, hF.tape, hF.output, Nat.le_trans (by simp) hF.size, fun k hk hn => (hF.block k (by simp; omega) hn).trans (Below.heap_alloc _ _ _ hk)⟩
  have nm := fun k (hk : k < X0.heap.size) => h.nw.mtS (Z := Z) k hk
  refine ⟨h.ro.fr f1 (fun k hk e => ?_), h.fr.step f1 (fun k hk e => .inl (nm k hk e)), h.nw.trans hN (Nat.le_trans h.fr.size (by simp)), h.bp.keep f1 (fun e => np (nm pb hpl e)), h.bq.keep f1 (fun e => nq (nm qb hql e))⟩
  simp [Value.ownBlock] at hk
  subst hk
  exact ni (nm _ hg e)
theorem DlS.hit {X0 wr X2 : World} {Z pb qb : Nat} {pc : Int} {hs : List Hd} {p : List Spot × List Spot} {lv0 lv2 lv3 : Value} {g off cap i j : Nat} {ys : List Hd} {h : Hd} (D : DlS X0 Z pb qb pc hs p lv0 g off cap i j ys lv2 wr) (hx : hs[j]? = some h) (hh : hol h pc = true)
    (hM : ML X2 Z (wkM pc (wkF pc (hs.take j) p).1 h) (wkL pc (wkF pc (hs.take j) p).1 (wkF pc (hs.take j) p).2 h) lv3) (ro : Ro X2 4 (.slice (some ⟨g, off, none⟩) hs.length cap) hs.length (flt enH ys)) (fr : Fr (fun k => mtS Z lv0 k ∨ k = g) X0 X2) (nw : nwL X0 lv0 lv3) (bp : Bxv X2 pb (.int .i64 pc)) (bq : Bxv X2 qb (fM Z)) :
    DlS X0 Z pb qb pc hs p lv0 g off cap i (j + 1) ys lv3 X2 := by
  have hj := (List.getElem?_eq_some_iff.1 hx).1
  have ij := D.ij
  exact ⟨by omega, hj, D.yl, by rw [idl_push pc hx, if_pos hh]; exact D.yt, fun k hk => D.yd k (by omega), ro, by rw [wkF_push pc hx]; exact hM, fr, nw, bp, bq⟩
theorem DlS.miss {X0 wr X2 : World} {Z pb qb : Nat} {pc : Int} {hs : List Hd} {p : List Spot × List Spot} {lv0 lv2 lv3 : Value} {g off cap i j : Nat} {ys : List Hd} {h : Hd} (D : DlS X0 Z pb qb pc hs p lv0 g off cap i j ys lv2 wr) (hx : hs[j]? = some h) (hh : hol h pc = false)
    (hM : ML X2 Z (wkM pc (wkF pc (hs.take j) p).1 h) (wkL pc (wkF pc (hs.take j) p).1 (wkF pc (hs.take j) p).2 h) lv3) (ro : Ro X2 4 (.slice (some ⟨g, off, none⟩) hs.length cap) hs.length (flt enH ys)) (fr : Fr (fun k => mtS Z lv0 k ∨ k = g) X0 X2) (nw : nwL X0 lv0 lv3) (bp : Bxv X2 pb (.int .i64 pc)) (bq : Bxv X2 qb (fM Z))
    (hg : g < X0.heap.size) (ni : ¬ mtS Z lv0 g) (nz : g ≠ Z + 1) (np : g ≠ pb) (nq : g ≠ qb) :
    DlS X0 Z pb qb pc hs p lv0 g off cap (i + 1) (j + 1) (ys.set i h) lv3 (X2.setCells g (off + i * 4) (enH h)) := by
  have hj := (List.getElem?_eq_some_iff.1 hx).1
  have ij := D.ij
  have yl := D.yl
  have f2 : Fr (fun k => k = g) X2 (X2.setCells g (off + i * 4) (enH h)) := by
    obtain ⟨r1, r2, r3⟩ := setCells_rest g (enH h) (off + i * 4) X2
    exact ⟨r1, r2, r3, by rw [setCells_size]; exact Nat.le_refl _, fun k _ hk => setCells_other g k hk _ _ _⟩
  have hnm : ¬ mtS Z lv3 g := fun e => ni (nw.mtS g hg e)
  refine ⟨by omega, hj, by rw [List.length_set]; exact yl, ?_, fun k hk => ?_, ro.putH (by rw [yl]) (by omega) h, ?_, fr.step f2 (fun k _ e => .inr e), nw, bp.keep f2 (fun e => np e.symm), bq.keep f2 (fun e => nq e.symm)⟩
  · rw [idl_push pc hx, hh, if_neg (by simp), ← D.yt, List.take_add_one, List.take_set_of_le (by omega), List.getElem?_set_self (by omega)]
    rfl
  · rw [List.getElem?_set_ne (by omega)]
    exact D.yd k (by omega)
  · rw [wkF_push pc hx]
    refine hM.keep f2 (fun e => hnm (.inl e.symm)) (fun e => nz e.symm) (fun e => hnm (.inr (.inl e.symm))) (fun k hk e => ?_)
    subst e
    exact hnm (.inr (.inr hk))
/-- All were asked: what is behind the kept is cleared. -/
theorem DlS.done {X0 wr : World} {Z pb qb : Nat} {pc : Int} {hs : List Hd} {p : List Spot × List Spot} {lv0 lv2 : Value} {g off cap i : Nat} {ys : List Hd} (D : DlS X0 Z pb qb pc hs p lv0 g off cap i hs.length ys lv2 wr)
    (hg : g < X0.heap.size) (ni : ¬ mtS Z lv0 g) (nz : g ≠ Z + 1) {n : Nat} :
    DlR X0 Z pb qb pc hs p lv0 (.slice (some ⟨g, off, none⟩) n cap) (.slice (some ⟨g, off, none⟩) i cap) lv2 (wr.setCells g (off + i * 4) (zrH (hs.length - i))) := by
  have ij := D.ij
  have yl := D.yl
  have yt := D.yt
  rw [List.take_length] at yt
  have hil : (idl pc hs).length = i := by rw [← yt, List.length_take]; omega
  obtain ⟨_, _, e, hc, _⟩ := D.ro.shape
  cases e
  have f2 : Fr (fun k => k = g) wr (wr.setCells g (off + i * 4) (zrH (hs.length - i))) := by
    obtain ⟨r1, r2, r3⟩ := setCells_rest g (zrH (hs.length - i)) (off + i * 4) wr
    exact ⟨r1, r2, r3, by rw [setCells_size]; exact Nat.le_refl _, fun k _ hk => setCells_other g k hk _ _ _⟩
  have hnm : ¬ mtS Z lv2 g := fun e => ni (D.nw.mtS g hg e)
  have hml := D.ml
  rw [List.take_length] at hml
  refine ⟨?_, rfl, hml.keep f2 (fun e => hnm (.inl e.symm)) (fun e => nz e.symm) (fun e => hnm (.inr (.inl e.symm))) (fun k hk e => ?_), D.fr.step f2 (fun k _ e => .inr e) |>.mono (fun k _ e => e.imp id (fun q => by rw [q]; rfl)), D.nw⟩
  · rw [hil]
    refine (D.ro.sets rfl (o := off + i * 4) (m := i) (vs := zrH (hs.length - i)) (ys := flt enH (idl pc hs)) (by omega) (by rw [zrH_length]; omega) (by omega) (by rw [flt_length zH, hil]) (fun j hj => ?_) (fun j hj q => by omega)).1
    rw [if_neg (by omega), ← yt, ← flt_take zH, List.getElem?_take, if_pos hj]
  · subst e
    exact hnm (.inr (.inr hk))
set_option maxRecDepth 100000 in
set_option maxHeartbeats 6400000 in
theorem delFunc_any {X : World} {Z pb qb : Nat} {met left : List Spot} {lv iv : Value} {hs : List Hd} (pc : Int) (hM : ML X Z met left lv) (hp : Bxv X pb (.int .i64 pc)) (hq : Bxv X qb (fM Z)) (hi : Ro X 4 iv hs.length (flt enH hs)) (hk : ∀ h ∈ hs, OkHv h)
    (np : ¬ (mtS Z lv pb ∨ iv.ownBlock = some pb)) (nq : ¬ (mtS Z lv qb ∨ iv.ownBlock = some qb)) (ni : ∀ k, iv.ownBlock = some k → ¬ mtS Z lv k) (nz : ∀ k, iv.ownBlock = some k → k ≠ Z + 1) (hl : left.length + hs.length < 1000000000) (hm : met.length + hs.length < 1000000000) :
    Calls Tryz.prog 190 #[iv, fW pb qb] X fun e X' => ∃ iv', e = .returned iv' ∧ ∃ lv', DlR X Z pb qb pc hs (met, left) lv iv iv' lv' X' := by
  have HIX := hide (ixFunc_any pc hM hp hq hi hk (fun e => np (.inl e)) (fun e => nq (.inl e)) ni (by omega) (by omega))
  have HMX := hide hM
  have HIR := hide hi
  have HPB := hide hp
  have HQB := hide hq
  have HNP := hide np
  have HNQ := hide nq
  have HNI := hide ni
  have HNZ := hide nz
  have HK := hide hk
  obtain ⟨ia, ic, ev, icl, icm⟩ := hi.shape
  obtain ⟨L, hL⟩ : ∃ L, Hid (hs.length = L) := ⟨_, rfl⟩
  have hLm : L ≤ maxLen := by rw [← unhide hL]; omega
  unfold maxLen at hLm icm
  obtain ⟨R, hR⟩ : ∃ R, Hid (ixh pc hs = R) := ⟨_, rfl⟩
  rw [unhide hL] at ev icl hl hm
  rw [unhide hR] at HIX
  subst ev
  clear hM hp hq hi hk ni np nq nz
  go_enter Tryz.func190, Tryz.ntmps190
  go_wp2_with fail
  refine (unhide HIX).mono ?_
  rintro e X1 ⟨rfl, lv1, hF1, hN1, hcase⟩
  clear HIX
  rcases hcase with ⟨hall, hM1⟩ | ⟨i, h, hx, hRi, hh, hno, hM1⟩
  · have hR1 : R = -1 := by
      rw [← unhide hR]; exact ixh_miss (fun j y hj hy => hall y (List.mem_of_getElem? hy))
    subst hR1
    have HE : Hid (DlR X Z pb qb pc hs (met, left) lv (.slice ia L ic) (.slice ia L ic) lv1 X1) :=
      ⟨by rw [idl_all hall]; exact (unhide HIR).fr hF1 (fun k hk => unhide HNI k hk), rfl, by rw [wkF_skip hall]; exact hM1, hF1.mono (fun k _ e => .inl e), hN1⟩
    clear hall hM1 hF1 hN1
    go_wp2_with fail
    go_ret
    exact ⟨_, rfl, lv1, unhide HE⟩
  · have hiL : i < L := by rw [← unhide hL]; exact (List.getElem?_eq_some_iff.1 hx).1
    have hRv : R = (i : Int) := hRi
    subst hRv
    obtain ⟨g, off, c', e, _, _, hgl, _⟩ := (unhide HIR).full (by rw [unhide hL]; omega)
    rw [unhide hL] at e
    cases e
    have HGL := hide hgl
    have HPL := hide (unhide HPB).lt
    have HQL := hide (unhide HQB).lt
    have hE : DlS X Z pb qb pc hs (met, left) lv g off ic i (i + 1) hs lv1 X1 := by
      refine DlS.first hx hh hno ?_ hM1 (hF1.mono (fun k _ e => .inl e)) hN1 ((unhide HPB).keep hF1 (fun e => unhide HNP (.inl e))) ((unhide HQB).keep hF1 (fun e => unhide HNQ (.inl e)))
      rw [unhide hL]
      have := (unhide HIR).fr hF1 (fun k hk => unhide HNI k hk)
      rw [unhide hL] at this
      exact this
    have HE := hide hE
    clear hE hM1 hF1 hN1 hx hh hno hRi
    have hne : ¬ (i : Int) = -1 := by omega
    have hwi : IntKind.i64.wrap ((i : Int) + 1) = (i : Int) + 1 := by go_arith
    go_wp2_with fail
    clear hne hwi
    go_loopg [5, 6] L (fun gg t5 t6 wr => ∃ (i j : Nat), Hid (L ≤ j + gg) ∧ t5 = .int .i64 (i : Int) ∧ t6 = .int .i64 (j : Int) ∧ Hid (∃ ys lv2, DlS X Z pb qb pc hs (met, left) lv g off ic i j ys lv2 wr))
    case atStart => exact ⟨i, i + 1, by unfold Hid; omega, rfl, by go_num, hs, lv1, HE⟩
    case round =>
      obtain ⟨i, j, hj, rfl, rfl, hD⟩ := hrel
      clear HE
      obtain ⟨ys, lv2, hD⟩ := unhide hD
      have HD := hide hD
      have hijL := hD.ij
      have i0 : (0 : Int) ≤ (j : Int) := by omega
      have i2 : (0 : Int) ≤ (i : Int) := by omega
      by_cases hlt : j < L
      · have i1 : (j : Int) < (L : Int) := by omega
        have i3 : (i : Int) < (L : Int) := by omega
        obtain ⟨h, hx⟩ : ∃ h, hs[j]? = some h := ⟨_, List.getElem?_eq_getElem (by rw [unhide hL]; exact hlt)⟩
        have hy : ys[j]? = some h := by rw [hD.yd j (Nat.le_refl _)]; exact hx
        have hro := hD.ro
        rw [← hD.yl] at hro
        obtain ⟨b', off', c', e, _, _, hb, hc⟩ := Rx.elem zH (Rx.of_ro hro) hy
        cases e
        have k0 := hc 0 _ rfl
        have k1 := hc 1 _ rfl
        have k2 := hc 2 _ rfl
        have k3 := hc 3 _ rfl
        rw [Nat.add_zero] at k0
        have hfl := wkF_length pc (hs.take j) (met, left)
        rw [List.length_take, unhide hL, Nat.min_eq_left (by omega)] at hfl
        simp only at hfl
        have m1 : ML (wr.alloc (.cells #[.int .i64 h.frm, .int .i64 h.to, .int .i64 h.target, .int .i64 h.height] 112)) Z (wkF pc (hs.take j) (met, left)).1 (wkF pc (hs.take j) (met, left)).2 lv2 := hD.ml.keep ((Fr.refl (fun _ => False) wr).alloc _) (fun e => e) (fun e => e) (fun e => e) (fun _ _ e => e)
        have HC := hide (wake1_any pc h (unhide HK h (List.mem_of_getElem? hx)) m1 (hD.bp.keep ((Fr.refl (fun _ => False) wr).alloc _) (fun e => e)) (hD.bq.keep ((Fr.refl (fun _ => False) wr).alloc _) (fun e => e)) (by omega) (by omega))
        have HX := hide hx
        have hz := hD.ml.bl.lt
        have hlo : ∀ k, lv2.ownBlock = some k → k < wr.heap.size := fun k hk => hD.ml.lf.lt k hk
        have HLO := hide hlo
        have hLeq := unhide hL
        clear hc hx hy hro m1 hfl hD hlo
        go_wp2_with fail
        refine (unhide HC).mono ?_
        rintro e X2 ⟨rfl, lv3, hM2, hF2, hN2⟩
        obtain ⟨RO2, FR2, NW2, BP2, BQ2⟩ := (unhide HD).ask (unhide HGL) (unhide HPL) (unhide HQL) (unhide HNI g rfl) (fun e => unhide HNP (.inl e)) (fun e => unhide HNQ (.inl e)) hF2 hN2
        have HM2 := hide hM2
        have nc := fun j z (hz : #[Value.int .i64 h.frm, .int .i64 h.to, .int .i64 h.target, .int .i64 h.height].toList[j]? = some z) => new_cells wr #[.int .i64 h.frm, .int .i64 h.to, .int .i64 h.target, .int .i64 h.height] 112 j z hz
        have hnb : ¬ mtS Z lv2 wr.heap.size := fun e => by
          rcases e with e | e | e
          · omega
          · omega
          · have := unhide HLO _ e; omega
        have hsz : wr.heap.size < (wr.alloc (.cells #[.int .i64 h.frm, .int .i64 h.to, .int .i64 h.target, .int .i64 h.height] 112)).heap.size := by rw [World.size_alloc]; omega
        have bx : ∀ (c : Nat) z, #[Value.int .i64 h.frm, .int .i64 h.to, .int .i64 h.target, .int .i64 h.height].toList[c]? = some z → X2.cell? ⟨wr.heap.size, c, none⟩ = some z := fun c z hz => by
          have h1 := nc c z hz
          rw [Go.WideShapes.add_plain, Nat.zero_add] at h1
          exact (hF2.cell (a := ⟨wr.heap.size, c, none⟩) hsz hnb).trans h1
        have x0 := bx 0 _ rfl
        have x1 := bx 1 _ rfl
        have x2 := bx 2 _ rfl
        have x3 := bx 3 _ rfl
        have xl : wr.heap.size < X2.heap.size := World.block_lt_of_cell? _ _ x0
        clear hM2 hF2 hN2 nc bx HC k0 k1 k2 k3 hsz
        cases hh : hol h pc with
        | true =>
          have HN : Hid (DlS X Z pb qb pc hs (met, left) lv g off ic i (j + 1) ys lv3 X2) := (unhide HD).hit (unhide HX) hh (unhide HM2) (unhide RO2) (unhide FR2) (unhide NW2) (unhide BP2) (unhide BQ2)
          clear hh x0 x1 x2 x3
          go_wp2_with fail
          go_roundg (gk - 1)
          case measure => have := unhide hj; omega
          case rel => exact ⟨i, j + 1, by have := unhide hj; unfold Hid; omega, rfl, by go_num, ys, lv3, HN⟩
        | false =>
          have hN := (unhide HD).miss (unhide HX) hh (unhide HM2) (unhide RO2) (unhide FR2) (unhide NW2) (unhide BP2) (unhide BQ2) (unhide HGL) (unhide HNI g rfl) (unhide HNZ g rfl) (fun e => unhide HNP (.inr (by rw [e]; rfl))) (fun e => unhide HNQ (.inr (by rw [e]; rfl)))
          have hro2 := unhide RO2
          obtain ⟨y, hy⟩ : ∃ y, ys[i]? = some y := ⟨_, List.getElem?_eq_getElem (by rw [(unhide HD).yl, unhide hL]; omega)⟩
          have hro3 := hro2
          rw [← (unhide HD).yl] at hro3
          obtain ⟨b', off', c', e, _, _, hb2, hc2⟩ := Rx.elem zH (Rx.of_ro hro3) hy
          rw [(unhide HD).yl] at e
          cases e
          have q0 := hc2 0 _ rfl
          have q1 := hc2 1 _ rfl
          have q2 := hc2 2 _ rfl
          have q3 := hc2 3 _ rfl
          rw [Nat.add_zero] at q0
          have z0 := hro2.free rfl (off + i * 4)
          have z1 := hro2.free rfl (off + i * 4 + 1)
          have z2 := hro2.free rfl (off + i * 4 + 2)
          have z3 := hro2.free rfl (off + i * 4 + 3)
          have hgn : g ≠ wr.heap.size := by have := (unhide HD).fr.size; have := unhide HGL; omega
          have HN := hide hN
          clear hN hro2 hro3 hy hc2 hh
          go_wp2_with fail
          go_roundg (gk - 1)
          case measure => have := unhide hj; omega
          case rel => exact ⟨i + 1, j + 1, by have := unhide hj; unfold Hid; omega, by go_num, by go_num, ys.set i h, lv3, HN⟩
      · have hjl : j = L := by have := hD.jn; rw [unhide hL] at this; omega
        subst hjl
        have i1 : ¬ (j : Int) < (j : Int) := by omega
        have hD2 := hD
        have hro := hD.ro
        rw [unhide hL] at hro
        have hcl := clear4 wr g (off + i * 4) (j - i) (ic - i) (by omega) (fun q hq => by
          obtain ⟨b', off', c', e, _, _, hb, hc⟩ := hro.full (by omega)
          cases e
          refine ⟨?_, hro.free rfl _⟩
          rw [Nat.add_assoc, hc (i * 4 + q) (by omega)]
          rw [List.getElem?_eq_getElem (by rw [flt_length zH, hD.yl, unhide hL]; omega)]; rfl)
        have HE : Hid (DlR X Z pb qb pc hs (met, left) lv (.slice (some ⟨g, off, none⟩) j ic) (.slice (some ⟨g, off, none⟩) i ic) lv2 (wr.setCells g (off + i * 4) (zrH (j - i)))) := by
          have := unhide hL
          subst this
          exact hD.done (unhide HGL) (unhide HNI g rfl) (unhide HNZ g rfl)
        have hij : i ≤ j := by omega
        clear hD hD2 hro HD
        go_wp2_with fail
        go_ret
        exact ⟨_, rfl, lv2, unhide HE⟩

set_option linter.unusedVariables false
set_option linter.unusedSimpArgs false
theorem Below.drewN {B : Nat} {a w : World} (h : Below B a w) (n : Nat) : Below B a (w.drewN n) := ⟨h.os, h.tape, h.output, h.size, h.block⟩
/-- What is taken, what is put. -/
def tkI (op a : Int) : Int := if okB op a then (tk op.toNat : Int) + (if kd op.toNat = 6 then a else 0) else 0
def ptI (op a : Int) : Int := if okB op a then (pt op.toNat : Int) else 0
theorem tk_le (k : Nat) (h : k < 67) : tk k ≤ 3 := by
  have : ∀ k : Fin 67, tk k.val ≤ 3 := by decide +kernel
  exact this ⟨k, h⟩
theorem pt_le (k : Nat) (h : k < 67) : pt k ≤ 2 := by
  have : ∀ k : Fin 67, pt k.val ≤ 2 := by decide +kernel
  exact this ⟨k, h⟩
theorem okB_op {k : Nat} (h : k < 67) (a : Int) : okB k a = rightB (kd k) a := by simp [okB, isOp_nat h]
theorem right6 {a : Int} (h : rightB 6 a = true) : 0 ≤ a ∧ a < 64 := by
  have e1 : lo 6 = 0 := rfl
  have e2 : hi 6 = 63 := rfl
  simp only [rightB, e1, e2] at h
  simp at h
  omega

set_option maxRecDepth 100000 in
set_option maxHeartbeats 2000000 in
theorem effect_any (w : World) (op a : Int) : Calls Tryz.prog 192 #[.agg #[.int .i64 op, .int .i64 a]] w fun e w' => e = .returned (.tuple #[.int .i64 (tkI op a), .int .i64 (ptI op a), .bool (okB op a)]) ∧ Below w.heap.size w w' := by
  have H1 := hide (fun w => check_any w op a)
  cases hok : okB op a
  · have e1 : erN op a = 7 := by simp [erN, hok]
    have e2 : tkI op a = 0 := by simp [tkI, hok]
    have e3 : ptI op a = 0 := by simp [ptI, hok]
    rw [e2, e3]
    rw [e1] at H1
    clear e1 e2 e3 hok
    go_enter Tryz.func192, Tryz.ntmps192
    go_wp2_with fail
    refine (unhide H1 _).mono ?_
    rintro e w1 ⟨rfl, hb⟩
    have HB := hide hb
    clear hb
    go_wp2
    go_ret3
    exact ⟨rfl, Bl.par (unhide HB)⟩
  · have hop : isOp op = true := by simp [okB] at hok; exact hok.1
    have h : 0 ≤ op ∧ op < 67 := by simpa [isOp] using hop
    obtain ⟨k, rfl⟩ : ∃ k : Nat, op = k := ⟨op.toNat, by omega⟩
    have hk : k < 67 := by omega
    have e1 : erN k a = 0 := by simp [erN, hok]
    have e3 : ptI k a = pt k := by simp [ptI, hok]
    rw [e3]
    rw [e1] at H1
    have H2 := hide (fun w => shapeOf_any w k hk)
    have ht := tk_le k hk
    by_cases h6 : kd k = 6
    · have hr : rightB 6 a = true := by rw [okB_op hk, h6] at hok; exact hok
      have hr := right6 hr
      have e2 : tkI k a = tk k + a := by simp [tkI, hok, h6]
      rw [e2]
      rw [h6] at H2
      generalize tk k = t at *
      generalize ((pt k : Nat) : Int) = p at *
      have ew : IntKind.i64.wrap ((t : Int) + a) = (t : Int) + a := by rw [IntKind.wrap_i64]; omega
      clear e1 e2 e3 hok hop h h6 hk hr ht
      go_enter Tryz.func192, Tryz.ntmps192
      go_wp2_with fail
      refine (unhide H1 _).mono ?_
      rintro e w1 ⟨rfl, hb⟩
      have HB := hide hb
      obtain ⟨c0, c1⟩ := par_cells hb
      clear hb
      go_wp2_with fail
      refine (unhide H2 _).mono ?_
      rintro e w2 ⟨rfl, hb2⟩
      have HB2 := hide hb2
      have d1 := (hb2.cell (p := ⟨w.heap.size, 1, none⟩) (World.block_lt_of_cell? _ _ c1)).trans c1
      have lt := World.block_lt_of_cell? _ _ d1
      clear hb2 c0 c1
      go_wp2_with fail
      go_quiet (fail)
      go_wp2_with fail
      go_ret3
      refine ⟨rfl, Go.Proofs.YtlogmdldjmkkjaaGreatDoor.Below.drewN ?_ _⟩
      exact (Bl.go (Bl.par (unhide HB)) (by have := (unhide HB).size; simp at this; omega) (unhide HB2)).alloc (by have := (unhide HB).size; have := (unhide HB2).size; simp at *; omega) _
    · have h6' : (((kd k : Nat) : Int) == 6) = false := by simp; omega
      have e2 : tkI k a = tk k := by simp [tkI, hok, h6]
      rw [e2]
      generalize tk k = t at *
      generalize ((pt k : Nat) : Int) = p at *
      generalize ((kd k : Nat) : Int) = d at *
      clear e1 e2 e3 hok hop h h6 hk ht
      go_enter Tryz.func192, Tryz.ntmps192
      go_wp2_with fail
      refine (unhide H1 _).mono ?_
      rintro e w1 ⟨rfl, hb⟩
      have HB := hide hb
      obtain ⟨c0, c1⟩ := par_cells hb
      clear hb
      go_wp2_with fail
      refine (unhide H2 _).mono ?_
      rintro e w2 ⟨rfl, hb2⟩
      have HB2 := hide hb2
      clear hb2 c0 c1
      go_wp2_with fail
      go_quiet (fail)
      go_wp2_with fail
      go_ret3
      refine ⟨rfl, Go.Proofs.YtlogmdldjmkkjaaGreatDoor.Below.drewN ?_ _⟩
      exact (Bl.go (Bl.par (unhide HB)) (by have := (unhide HB).size; simp at this; omega) (unhide HB2)).alloc (by have := (unhide HB).size; have := (unhide HB2).size; simp at *; omega) _

set_option maxRecDepth 100000 in
set_option maxHeartbeats 1000000 in
theorem jumps_any (w : World) (op : Int) : Calls Tryz.prog 193 #[.int .i64 op] w fun e w' => e = .returned (.bool (jmB op)) ∧ Below w.heap.size w w' := by
  by_cases h : 0 ≤ op ∧ op < 67
  · obtain ⟨k, rfl⟩ : ∃ k : Nat, op = k := ⟨op.toNat, by omega⟩
    have hk : k < 67 := by omega
    have H1 := hide (operand_any w (k : Int))
    rw [kdI_nat hk, isOp_nat hk] at H1
    rw [jm_kd k hk]
    generalize ((kd k : Nat) : Int) = d at *
    clear h hk
    go_enter Tryz.func193, Tryz.ntmps193
    go_wp2_with fail
    refine (unhide H1).mono ?_
    rintro e w1 ⟨rfl, hb⟩
    have HB := hide hb
    clear hb
    by_cases hd : d = 2
    all_goals
      go_wp2
      go_ret
      exact ⟨by simp_all, unhide HB⟩
  · have H1 := hide (operand_any w op)
    rw [kdI_no h, isOp_no h] at H1
    rw [jm_no h]
    clear h
    go_enter Tryz.func193, Tryz.ntmps193
    go_wp2_with fail
    refine (unhide H1).mono ?_
    rintro e w1 ⟨rfl, hb⟩
    have HB := hide hb
    clear hb
    go_wp2
    go_ret
    exact ⟨rfl, unhide HB⟩

set_option maxRecDepth 100000 in
set_option maxHeartbeats 1000000 in
theorem ends_any (w : World) (op : Int) : Calls Tryz.prog 107 #[.int .i64 op] w fun e w' => e = .returned (.bool (enB op)) ∧ w' = w := by
  unfold enB
  by_cases h0 : op = 40 <;> by_cases h1 : op = 44 <;> by_cases h2 : op = 45
  all_goals first | (exfalso; omega) | skip
  all_goals
    go_enter Tryz.func107, Tryz.ntmps107
    go_wp2
    go_ret
    simp_all
end Go.Proofs.YtlogmdldjmkkjaaGreatDoor
