/-
  meet.
-/
import Derived.Test.YtiknljilfpekfaaDoorVMap
namespace Go.Proofs.YtiknljilfpekfaaDoor
open Go.RowKit
set_option linter.unusedVariables false
set_option linter.unusedSimpArgs false
theorem Tryd.info82 : (Tryd.prog.info? 82).map (fun i => (i.zero, i.size, i.bytes)) = some (some (.agg #[.int .i64 0, .int .i64 0]), 2, 16) := by kernel_rfl
/-- A cell that may be written. -/
def Bx (X : World) (b : Nat) (v : Value) : Prop := X.cell? ⟨b, 0, none⟩ = some v ∧ X.frozen? ⟨b, 0, none⟩ = false
theorem Bx.lt {X : World} {b : Nat} {v : Value} (h : Bx X b v) : b < X.heap.size := World.block_lt_of_cell? _ _ h.1
theorem Bx.keep {S : Nat → Prop} {X Y : World} {b : Nat} {v : Value} (h : Bx X b v) (f : Fr S X Y) (hn : ¬ S b) : Bx Y b v :=
  ⟨(f.cell (a := ⟨b, 0, none⟩) h.lt hn).trans h.1, (f.frozen (a := ⟨b, 0, none⟩) h.lt hn).trans h.2⟩
theorem Bx.new (X : World) (v : Value) (t : TypeId) : Bx (X.alloc (.cells #[v] t)) X.heap.size v := by
  have hg := heap_alloc_new X (.cells #[v] t)
  refine ⟨?_, ?_⟩
  · simp only [World.cell?, hg]; rfl
  · simp only [World.frozen?, hg]; rfl
theorem Bx.new' (X : World) (v : Value) (t : TypeId) {n : Nat} (hn : X.heap.size = n) : Bx (X.alloc (.cells #[v] t)) n v := hn ▸ Bx.new X v t
theorem Bx.set {X : World} {b : Nat} {v : Value} (h : Bx X b v) (u : Value) : Bx (X.setCell ⟨b, 0, none⟩ u) b u :=
  ⟨World.cell?_setCell_same' _ _ _ (by rw [h.1]; rfl), by rw [World.frozen?_setCell]; exact h.2⟩
/-- What was met (a map, block Z, in the box Z + 1) and what is left (a list, in the box Z + 2). -/
structure ML (X : World) (Z : Nat) (met left : List Spot) (lv : Value) : Prop where
  bm : Bx X (Z + 1) (.map (some Z))
  ms : MS X Z met
  bl : Bx X (Z + 2) lv
  lf : Ro X 2 lv left.length (flt enI left)
  own : ∀ k, lv.ownBlock = some k → Z + 3 ≤ k
/-- What meet may turn. -/
def mtS (Z : Nat) (lv : Value) (k : Nat) : Prop := k = Z ∨ k = Z + 2 ∨ lv.ownBlock = some k
theorem ML.keep {S : Nat → Prop} {X Y : World} {Z : Nat} {met left : List Spot} {lv : Value} (h : ML X Z met left lv) (f : Fr S X Y) (h0 : ¬ S Z) (h1 : ¬ S (Z + 1)) (h2 : ¬ S (Z + 2)) (h3 : ∀ k, lv.ownBlock = some k → ¬ S k) : ML Y Z met left lv :=
  ⟨h.bm.keep f h1, h.ms.keep (f.block Z h.ms.lt h0), h.bl.keep f h2, h.lf.fr f h3, h.own⟩
/-- met, with a spot more if it is new; left likewise. -/
noncomputable def mtM (met : List Spot) (s : Spot) : List Spot := open Classical in if s ∈ met then met else s :: met
noncomputable def mtL (met left : List Spot) (s : Spot) : List Spot := open Classical in if s ∈ met then left else left ++ [s]

theorem wpList_appS {w : World} {ops : Array Oper} {rest : List Oper} {o : Oper} {a : Act} {Q : Exit → Act → World → Prop}
    (hg : o.guard = none) (s x : Operand) (hop : o.op = Op.call { callee := Callee.builtin Builtin.append, args := #[s, x], argTypes := #[80, 80] })
    (v : Value) (l : List Spot) (hs : a.eval s = v) (hr : Ro w 2 v l.length (flt enI l)) (ad : Addr) (c : Nat) (p : Spot) (hx : a.eval x = .slice (some ad) 1 c) (hc : ∀ j u, [Value.int .i64 p.1, .int .i64 p.2][j]? = some u → w.cell? (ad.add j) = some u)
    (hN : l.length < 1000000000)
    (hK : ∀ v' w', Ro w' 2 v' (l.length + 1) (flt enI l ++ enI p) → w.grownBy w' v.ownBlock → (v'.ownBlock = v.ownBlock ∨ v'.ownBlock = some w.heap.size) → wpList Tryd.prog ops Q rest (a.put o.dst v') w') :
    wpList Tryd.prog ops Q (o :: rest) a w := by
  obtain ⟨i0, hi0, hz0, hz1, hz2⟩ := info_parts Tryd.info82
  exact wpList_app hg s x 80 hop 82 i0 _ 2 16 Tryd.underlying80 hi0 hz0 hz1 hz2 rfl (by decide) v l.length (flt enI l) hs hr ad 1 c [.int .i64 p.1, .int .i64 p.2] hx rfl hc (by simp [Value.oneCell']) (by omega) (by unfold maxLen; omega) (by omega) hK

/-- The spot is laid into what is left. -/
theorem meet_push {X W3 Y : World} {Z : Nat} {met left : List Spot} {lv lv' : Value} {s : Spot} {o : Obj} (b1 : Bx W3 (Z + 1) (.map (some Z))) (b2 : Bx W3 (Z + 2) lv) (hms : MS W3 Z met) (own : ∀ k, lv.ownBlock = some k → Z + 3 ≤ k) (f3 : Fr (fun k => k = Z) X W3)
    (hr : Ro Y 2 lv' (left.length + 1) (flt enI left ++ enI s)) (hg : (W3.alloc o).grownBy Y lv.ownBlock) (hat : lv'.ownBlock = lv.ownBlock ∨ lv'.ownBlock = some (W3.heap.size + 1)) :
    Hid (ML (Y.setCell ⟨Z + 2, 0, none⟩ lv') Z met (left ++ [s]) lv') ∧ Hid (Fr (mtS Z lv) X (Y.setCell ⟨Z + 2, 0, none⟩ lv')) ∧ Hid (lv'.ownBlock = lv.ownBlock ∨ ∀ k, lv'.ownBlock = some k → X.heap.size ≤ k) ∧ Bx Y (Z + 2) lv := by
  have fy : Fr (fun k => lv.ownBlock = some k) W3 Y := ((Fr.refl _ W3).alloc o).grown hg (fun k e => .inr e)
  have fz : Fr (fun k => k = Z + 2) Y (Y.setCell ⟨Z + 2, 0, none⟩ lv') := (Fr.refl (fun k => k = Z + 2) Y).setCell ⟨Z + 2, 0, none⟩ (.inr rfl) _
  have hs3 := f3.size
  have hz := b2.lt
  have own' : ∀ k, lv'.ownBlock = some k → Z + 3 ≤ k := fun k hk => by
    rcases hat with q | q
    · exact own k (q ▸ hk)
    · rw [q] at hk; cases hk; omega
  have b2Y : Bx Y (Z + 2) lv := b2.keep fy (fun e => by have := own _ e; omega)
  refine ⟨⟨(b1.keep fy (fun e => by have := own _ e; omega)).keep fz (by show ¬ Z + 1 = Z + 2; omega), (hms.keep (fy.block Z hms.lt (fun e => by have := own _ e; omega))).keep (fz.block Z (Nat.lt_of_lt_of_le hms.lt fy.size) (by show ¬ Z = Z + 2; omega)), b2Y.set _, ?_, own'⟩, ?_, ?_, b2Y⟩
  · rw [List.length_append, flt_append, flt_one]
    exact hr.fr fz (fun k hk e => by have := own' k hk; omega)
  · exact ((f3.mono (fun k _ e => .inl e)).trans (fy.mono (fun k _ e => .inr (.inr e)))).trans (fz.mono (fun k _ e => .inr (.inl e)))
  · rcases hat with q | q
    · exact .inl q
    · refine .inr (fun k hk => ?_)
      rw [q] at hk; cases hk; omega
set_option maxRecDepth 100000 in
set_option maxHeartbeats 3200000 in
theorem meet_any {X : World} {Z : Nat} {met left : List Spot} {lv : Value} (pc ht : Int) (hok : OkS (pc, ht)) (h : ML X Z met left lv) (hl : left.length < 1000000000) (hm : met.length < 1000000000) :
    Calls Tryd.prog 27 #[.int .i64 pc, .int .i64 ht, .pointer (some ⟨Z + 1, 0, none⟩), .pointer (some ⟨Z + 2, 0, none⟩)] X fun e X' => (∃ v, e = .returned v) ∧ ∃ lv', ML X' Z (mtM met (pc, ht)) (mtL met left (pc, ht)) lv' ∧ Fr (mtS Z lv) X X' ∧ (lv'.ownBlock = lv.ownBlock ∨ ∀ k, lv'.ownBlock = some k → X.heap.size ≤ k) := by
  obtain ⟨W1, eW1⟩ : ∃ W1, W1 = X.alloc (.cells #[.int .i64 pc, .int .i64 ht] 82) := ⟨_, rfl⟩
  have f1 : Fr (fun _ => False) X W1 := by rw [eW1]; exact (Fr.refl _ X).alloc _
  have m1 : ML W1 Z met left lv := h.keep f1 (fun e => e) (fun e => e) (fun e => e) (fun _ _ e => e)
  have hlk := m1.ms.look (pc, ht) hok
  have cm := h.bm.1
  have lm := h.bm.lt
  have hZX := h.bl.lt
  obtain ⟨va, vc, ev, _, _⟩ := h.lf.shape
  by_cases hin : (pc, ht) ∈ met
  · have e1 : mtM met (pc, ht) = met := if_pos hin
    have e2 : mtL met left (pc, ht) = left := if_pos hin
    rw [e1, e2]
    have hd : decide ((pc, ht) ∈ met) = true := decide_eq_true hin
    simp only [hd] at hlk
    have HH := hide h
    rw [eW1] at hlk
    clear f1 m1 eW1 W1 h
    go_enter Tryd.func27, Tryd.ntmps27
    go_wp2_with fail
    go_end0
    have f2 : Fr (fun _ => False) X ((X.alloc (.cells #[.int .i64 pc, .int .i64 ht] 82)).alloc (.cells #[] 83)) := ((Fr.refl _ X).alloc _).alloc _
    exact ⟨⟨_, rfl⟩, lv, (unhide HH).keep f2 (fun e => e) (fun e => e) (fun e => e) (fun _ _ e => e), f2.mono (fun _ _ e => e.elim), .inl rfl⟩
  · have e1 : mtM met (pc, ht) = (pc, ht) :: met := if_neg hin
    have e2 : mtL met left (pc, ht) = left ++ [(pc, ht)] := if_neg hin
    rw [e1, e2]
    have hd : decide ((pc, ht) ∈ met) = false := decide_eq_false hin
    simp only [hd] at hlk
    obtain ⟨W2, eW2⟩ : ∃ W2, W2 = W1.alloc (.cells #[] 83) := ⟨_, rfl⟩
    have f2 : Fr (fun _ => False) X W2 := by rw [eW2]; exact f1.alloc _
    have m2 : ML W2 Z met left lv := h.keep f2 (fun e => e) (fun e => e) (fun e => e) (fun _ _ e => e)
    obtain ⟨W3, hput, hms, hgr⟩ := m2.ms.put (pc, ht) hok (by unfold maxLen; omega)
    have f23 : Fr (fun k => k = Z) W2 W3 := (Fr.refl _ W2).grown hgr (fun k e => by cases e; exact .inr rfl)
    have f3 : Fr (fun k => k = Z) X W3 := (f2.mono (fun _ _ e => e.elim)).trans f23
    have b2 : Bx W3 (Z + 2) lv := m2.bl.keep f23 (by show ¬ Z + 2 = Z; omega)
    have r3 : Ro W3 2 lv left.length (flt enI left) := m2.lf.fr f23 (fun k hk e => by have := h.own k hk; omega)
    have b1 : Bx W3 (Z + 1) (.map (some Z)) := m2.bm.keep f23 (by show ¬ Z + 1 = Z; omega)
    have hW1s : W1.heap.size = X.heap.size + 1 := by rw [eW1]; simp
    have nc := fun j z (hz : #[Value.int .i64 pc, .int .i64 ht].toList[j]? = some z) => new_cells X #[.int .i64 pc, .int .i64 ht] 82 j z hz
    have x0 : W3.cell? ⟨X.heap.size, 0, none⟩ = some (.int .i64 pc) := by
      have := nc 0 _ rfl; rw [Go.WideShapes.add_plain, ← eW1] at this
      have k2 : W2.cell? ⟨X.heap.size, 0, none⟩ = some (.int .i64 pc) := (((Fr.refl (fun _ => False) W1).alloc (.cells #[] 83)).cell (a := ⟨X.heap.size, 0, none⟩) (by show X.heap.size < _; omega) (fun e => e)).trans this |> fun q => by rw [eW2]; exact q
      exact (f23.cell (a := ⟨X.heap.size, 0, none⟩) (World.block_lt_of_cell? _ _ k2) (by show ¬ X.heap.size = Z; omega)).trans k2
    have x1 : W3.cell? ⟨X.heap.size, 1, none⟩ = some (.int .i64 ht) := by
      have := nc 1 _ rfl; rw [Go.WideShapes.add_plain, ← eW1] at this
      have k2 : W2.cell? ⟨X.heap.size, 1, none⟩ = some (.int .i64 ht) := (((Fr.refl (fun _ => False) W1).alloc (.cells #[] 83)).cell (a := ⟨X.heap.size, 1, none⟩) (by show X.heap.size < _; omega) (fun e => e)).trans this |> fun q => by rw [eW2]; exact q
      exact (f23.cell (a := ⟨X.heap.size, 1, none⟩) (World.block_lt_of_cell? _ _ k2) (by show ¬ X.heap.size = Z; omega)).trans k2
    have xl : X.heap.size < W3.heap.size := World.block_lt_of_cell? _ _ x0
    have cm2 := m2.bm.1
    have y0 : W2.cell? ⟨X.heap.size, 0, none⟩ = some (.int .i64 pc) := by
      have := nc 0 _ rfl; rw [Go.WideShapes.add_plain, ← eW1] at this
      exact (((Fr.refl (fun _ => False) W1).alloc (.cells #[] 83)).cell (a := ⟨X.heap.size, 0, none⟩) (by show X.heap.size < _; omega) (fun e => e)).trans this |> fun q => by rw [eW2]; exact q
    have y1 : W2.cell? ⟨X.heap.size, 1, none⟩ = some (.int .i64 ht) := by
      have := nc 1 _ rfl; rw [Go.WideShapes.add_plain, ← eW1] at this
      exact (((Fr.refl (fun _ => False) W1).alloc (.cells #[] 83)).cell (a := ⟨X.heap.size, 1, none⟩) (by show X.heap.size < _; omega) (fun e => e)).trans this |> fun q => by rw [eW2]; exact q
    have c2 := b2.1
    have fz2 := b2.2
    have lz2 := b2.lt
    have HF3 := hide f3
    have HR3 := hide r3
    have HB1 := hide b1
    have HB2 := hide b2
    have HMS := hide hms
    have HOW := hide h.own
    rw [eW2, eW1] at hput cm2 y0 y1
    rw [eW1] at hlk
    subst ev
    clear f1 m1 h m2 hms hgr f23 f3 b2 r3 b1 hW1s nc f2 eW2 W2 eW1 W1
    go_enter Tryd.func27, Tryd.ntmps27
    go_wp2_with (first | (at_builtin; refine wpList_appS rfl _ _ rfl (.slice va left.length vc) left rfl ((unhide HR3).keep (fun g hg => Below.heap_alloc _ _ _ ((unhide HR3).lt g hg))) ⟨W3.heap.size, 0, none⟩ 1 (pc, ht) rfl (new_cells _ #[_, _] _) hl ?_; intro v' w' hr hg hat; obtain ⟨va', vc', ev', _, _⟩ := hr.shape; subst ev'; obtain ⟨P1, P2, P3, P4⟩ := meet_push (unhide HB1) (unhide HB2) (unhide HMS) (unhide HOW) (unhide HF3) hr hg (by simpa using hat); have k1 := P4.1; have k2 := P4.2; clear hr hg hat P4))

    go_end0
    exact ⟨⟨_, rfl⟩, _, unhide P1, unhide P2, unhide P3⟩
end Go.Proofs.YtiknljilfpekfaaDoor
