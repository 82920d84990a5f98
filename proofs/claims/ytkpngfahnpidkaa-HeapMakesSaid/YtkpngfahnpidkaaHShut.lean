/-
  Shut, Size.
-/
import Derived.Test.YtkpngfahnpidkaaHFind
namespace Go.Proofs.Ytkpngfahnpidkaa
open Go.RowKit
set_option linter.unusedVariables false

section
variable {w w' : World} {h : Nat} {bud sp : Int} {ov : Value} {os : List OD}
theorem Hp.setShut (H : Hp w h bud sp ov os) {i : Nat} {o : OD} (ho : os[i]? = some o) (hk : o.k = 9) (b : Bool) :
    w.cell? ⟨o.b, 2, none⟩ = some (.bool o.shut) ∧ w.frozen? ⟨o.b, 2, none⟩ = false ∧ Hp (w.setCell ⟨o.b, 2, none⟩ (.bool b)) h bud sp ov (os.set i { o with shut := b }) ∧
      Fr (Fts h ov os) w (w.setCell ⟨o.b, 2, none⟩ (.bool b)) ∧ ∀ k, Fts h ov (os.set i { o with shut := b }) k → Fts h ov os k ∨ w.heap.size ≤ k := by
  have hok := H.ok i o ho
  obtain ⟨n1, n2, n3⟩ := H.one ho
  have hc : w.cell? ⟨o.b, 2, none⟩ = some (.bool o.shut) := hok.cell 2 _ (by simp [OD.cells, hk])
  have f2 : Fr (fun k => k = o.b) w (w.setCell ⟨o.b, 2, none⟩ (.bool b)) := (Fr.refl (fun k => k = o.b) w).setCell ⟨o.b, 2, none⟩ (.inr rfl) _
  have hok' : ({ o with shut := b } : OD).ok (w.setCell ⟨o.b, 2, none⟩ (.bool b)) := by
    refine ⟨hok.kind, fun j u hu => ?_, fun j => by rw [World.frozen?_setCell]; exact hok.free j, hok.items.fr f2 (fun k hk e => n1 (e ▸ hk)), hok.keys.fr f2 (fun k hk e => n2 (e ▸ hk)), hok.plain⟩
    have e1 : ({ o with shut := b } : OD).cells = [.int .i64 o.m, o.iv, .bool b] := by simp [OD.cells, hk]
    have e0 : o.cells = [.int .i64 o.m, o.iv, .bool o.shut] := by simp [OD.cells, hk]
    rw [e1] at hu
    have hj : j < 3 := (List.getElem?_eq_some_iff.1 hu).1
    match j, hj with
    | 0, _ => rw [World.cell?_setCell_other _ _ _ _ (by simp)]; exact hok.cell 0 u (by rw [e0]; simpa using hu)
    | 1, _ => rw [World.cell?_setCell_other _ _ _ _ (by simp)]; exact hok.cell 1 u (by rw [e0]; simpa using hu)
    | 2, _ =>
      simp at hu
      subst hu
      exact World.cell?_setCell_same _ _ _ hc
  obtain ⟨a1, a2, a3⟩ := H.turn (o' := { o with shut := b }) ho (f2.mono (fun k _ e => .inl e)) rfl rfl hok' (.inl rfl) (.inl rfl) n3
  exact ⟨hc, hok.free 2, a1, a2, a3⟩
end
/-- What behind a call stands for a heap whose objects were os. -/
def Now (w : World) (h : Nat) (bud sp : Int) (ov : Value) (os : List OD) (w' : World) (sp' : Int) (os' : List OD) : Prop :=
  ∃ ov', Hp w' h bud sp' ov' os' ∧ Fr (Fts h ov os) w w' ∧ ∀ k, Fts h ov' os' k → Fts h ov os k ∨ w.heap.size ≤ k
theorem Now.same {w w' : World} {h : Nat} {bud sp : Int} {ov : Value} {os : List OD} (H : Hp w h bud sp ov os) (f : Below w.heap.size w w') : Now w h bud sp ov os w' sp os :=
  ⟨ov, H.below f, Fr.of_below f, fun k hk => .inl hk⟩
theorem Now.after {w w1 w' : World} {h : Nat} {bud sp sp' : Int} {ov : Value} {os os' : List OD} (f : Below w.heap.size w w1) (N : Now w1 h bud sp ov os w' sp' os') : Now w h bud sp ov os w' sp' os' := by
  obtain ⟨ov', h1, h2, h3⟩ := N
  exact ⟨ov', h1, (Fr.of_below f).trans h2, fun k hk => (h3 k hk).imp id (fun q => Nat.le_trans f.size q)⟩
theorem Now.below {w w1 w' : World} {h : Nat} {bud sp sp' : Int} {ov : Value} {os os' : List OD} (N : Now w h bud sp ov os w1 sp' os') (f : Below w1.heap.size w1 w') : Now w h bud sp ov os w' sp' os' := by
  obtain ⟨ov', h1, h2, h3⟩ := N
  exact ⟨ov', h1.below f, h2.trans (Fr.of_below f), h3⟩
theorem Below.mono' {B C : Nat} {w w' : World} (h : Below B w w') (hc : C ≤ B) : Below C w w' := h.mono hc

set_option maxRecDepth 100000 in
set_option maxHeartbeats 1600000 in
theorem shut_open {w : World} {h : Nat} {bud sp : Int} {ov : Value} {os : List OD} (H : Hp w h bud sp ov os) (kk n : Int) {o : OD} (hm : nm os kk n = some o) (hk : o.k = 9) (hs : o.shut = false) :
    Calls Try.prog 14 #[.pointer (some ⟨h, 0, none⟩), .agg #[.int .i64 kk, .int .i64 n]] w fun e w' => e = .returned (.int .i64 0) ∧ Now w h bud sp ov os w' sp (os.set n.toNat { o with shut := true }) := by
  have hB : Below w.heap.size w (w.alloc (.cells #[.int .i64 kk, .int .i64 n] 33)) := (Below.refl _ _).alloc (Nat.le_refl _) _
  have HC := hide (channel_hit (H.below hB) kk n hm hk)
  have HH := hide H
  have HB := hide hB
  have HK := hide (And.intro (nm_some hm).2.1 (And.intro hk hs))
  obtain ⟨b0, b1⟩ := two_new w (.int .i64 kk) (.int .i64 n) 33
  have hl := H.hlt
  clear H hB hm hk hs
  go_enter Try.func14, Try.ntmps14
  go_wp2_with fail
  refine (unhide HC).mono ?_
  rintro e1 w1 ⟨rfl, hb1⟩
  have hb2 := (unhide HB).trans (hb1.mono (unhide HB).size)
  obtain ⟨ho, hk, hs⟩ := unhide HK
  have H1 := (unhide HH).below hb2
  obtain ⟨c2, f2, a1, a2, a3⟩ := H1.setShut ho hk true
  rw [hs] at c2
  have hbl : o.b < w1.heap.size := (H1.ok _ _ ho).lt _ (.inl rfl)
  have A := hide (And.intro a1 (And.intro a2 a3))
  have HB2 := hide hb2
  clear H1 a1 a2 a3 hb1 hb2 ho hk hs
  go_wp2_with fail
  go_ret
  exact ⟨rfl, Now.after (unhide HB2) ⟨ov, (unhide A).1, (unhide A).2.1, (unhide A).2.2⟩⟩
set_option maxRecDepth 100000 in
set_option maxHeartbeats 1600000 in
theorem shut_shut {w : World} {h : Nat} {bud sp : Int} {ov : Value} {os : List OD} (H : Hp w h bud sp ov os) (kk n : Int) {o : OD} (hm : nm os kk n = some o) (hk : o.k = 9) (hs : o.shut = true) :
    Calls Try.prog 14 #[.pointer (some ⟨h, 0, none⟩), .agg #[.int .i64 kk, .int .i64 n]] w fun e w' => e = .returned (.int .i64 7) ∧ Below w.heap.size w w' := by
  have hB : Below w.heap.size w (w.alloc (.cells #[.int .i64 kk, .int .i64 n] 33)) := (Below.refl _ _).alloc (Nat.le_refl _) _
  have HC := hide (channel_hit (H.below hB) kk n hm hk)
  have HH := hide H
  have HB := hide hB
  have HK := hide (And.intro (nm_some hm).2.1 (And.intro hk hs))
  obtain ⟨b0, b1⟩ := two_new w (.int .i64 kk) (.int .i64 n) 33
  have hl := H.hlt
  clear H hB hm hk hs
  go_enter Try.func14, Try.ntmps14
  go_wp2_with fail
  refine (unhide HC).mono ?_
  rintro e1 w1 ⟨rfl, hb1⟩
  have hb2 := (unhide HB).trans (hb1.mono (unhide HB).size)
  obtain ⟨ho, hk, hs⟩ := unhide HK
  have H1 := (unhide HH).below hb2
  have c2 := (H1.setShut ho hk true).1
  rw [hs] at c2
  have hbl : o.b < w1.heap.size := (H1.ok _ _ ho).lt _ (.inl rfl)
  have HB2 := hide hb2
  clear H1 hb1 hb2 ho hk hs
  go_wp2_with fail
  go_ret
  exact ⟨rfl, unhide HB2⟩
set_option maxRecDepth 100000 in
set_option maxHeartbeats 1600000 in
theorem shut_none {w : World} {h : Nat} {bud sp : Int} {ov : Value} {os : List OD} (H : Hp w h bud sp ov os) (kk n : Int) (hm : ∀ o, nm os kk n = some o → o.k ≠ 9) :
    Calls Try.prog 14 #[.pointer (some ⟨h, 0, none⟩), .agg #[.int .i64 kk, .int .i64 n]] w fun e w' => e = .returned (.int .i64 1) ∧ Below w.heap.size w w' := by
  have hB : Below w.heap.size w (w.alloc (.cells #[.int .i64 kk, .int .i64 n] 33)) := (Below.refl _ _).alloc (Nat.le_refl _) _
  have HC := hide (channel_miss (H.below hB) kk n hm)
  have HB := hide hB
  obtain ⟨b0, b1⟩ := two_new w (.int .i64 kk) (.int .i64 n) 33
  have hl := H.hlt
  clear H hB hm
  go_enter Try.func14, Try.ntmps14
  go_wp2_with fail
  refine (unhide HC).mono ?_
  rintro e1 w1 ⟨rfl, hb1⟩
  have HB2 := hide ((unhide HB).trans (hb1.mono (unhide HB).size))
  clear hb1
  go_wp2_with fail
  go_ret
  exact ⟨rfl, unhide HB2⟩
set_option maxRecDepth 100000 in
set_option maxHeartbeats 1600000 in
theorem size_chan {w : World} {h : Nat} {bud sp : Int} {ov : Value} {os : List OD} (H : Hp w h bud sp ov os) (kk n : Int) {o : OD} (hm : nm os kk n = some o) (hk : o.k = 9) :
    Calls Try.prog 16 #[.pointer (some ⟨h, 0, none⟩), .agg #[.int .i64 kk, .int .i64 n]] w fun e w' => e = .returned (.tuple #[.int .i64 (o.its.length : Int), .int .i64 0]) ∧ Below w.heap.size w w' := by
  have q0 := ta_75_83
  have q1 := ta_75_86
  have q2 := ta_75_75
  have hB : Below w.heap.size w (w.alloc (.cells #[.int .i64 kk, .int .i64 n] 33)) := (Below.refl _ _).alloc (Nat.le_refl _) _
  have HN := named_any (H.below hB) kk n
  have ef : o.face = .iface 75 (.pointer (some ⟨o.b, 0, none⟩)) := by unfold OD.face; rw [hk]; rfl
  rw [hm, show nface (some o) = o.face from rfl, ef] at HN
  have HN := hide HN
  have HB := hide hB
  have HH := hide H
  have HK := hide (And.intro (nm_some hm).2.1 hk)
  obtain ⟨b0, b1⟩ := two_new w (.int .i64 kk) (.int .i64 n) 33
  have hl := H.hlt
  clear H hm ef hB hk
  go_enter Try.func16, Try.ntmps16
  go_wp2_with fail
  refine (unhide HN).mono ?_
  rintro e1 w1 ⟨rfl, hb1⟩
  have hb2 := (unhide HB).trans (hb1.mono (unhide HB).size)
  obtain ⟨ho, hk⟩ := unhide HK
  have H1 := (unhide HH).below hb2
  have hok := H1.ok _ _ ho
  have c1 : w1.cell? ⟨o.b, 1, none⟩ = some o.iv := hok.cell 1 _ (by simp [OD.cells, hk])
  obtain ⟨ia, icap, ie, _⟩ := hok.items.shape
  rw [ie] at c1
  have hbl : o.b < w1.heap.size := hok.lt _ (.inl rfl)
  have HB2 := hide hb2
  clear H1 hok ie hb1 hb2 ho hk
  go_wp2_with fail
  go_ret2
  exact ⟨rfl, unhide HB2⟩
end Go.Proofs.Ytkpngfahnpidkaa
