/-
  Field, Has, Delete.
-/
import Derived.Test.YtkpngfahnpidkaaRIdx
namespace Go.Proofs.Ytkpngfahnpidkaa
open Go.RowKit
set_option linter.unusedVariables false
set_option linter.unusedSimpArgs false

section
variable {w w' : World} {h : Nat} {bud sp : Int} {ov : Value} {os : List OD}
/-- A record's keys are laid anew. -/
theorem Hp.setKv (H : Hp w h bud sp ov os) {i : Nat} {o : OD} (ho : os[i]? = some o) (hk7 : o.k = 7) (f : Fr (fun k => o.kv.ownBlock = some k) w w') {v : Value} {l : List Int}
    (hr : Ro w' 1 v l.length (kcells l)) (hv : v.ownBlock = o.kv.ownBlock ∨ ∀ k, v.ownBlock = some k → w.heap.size ≤ k) :
    w'.cell? ⟨o.b, 0, none⟩ = some o.kv ∧ w'.frozen? ⟨o.b, 0, none⟩ = false ∧ Hp (w'.setCell ⟨o.b, 0, none⟩ v) h bud sp ov (os.set i { o with kv := v, keys := l }) ∧
      Fr (Fts h ov os) w (w'.setCell ⟨o.b, 0, none⟩ v) ∧ ∀ k, Fts h ov (os.set i { o with kv := v, keys := l }) k → Fts h ov os k ∨ w.heap.size ≤ k := by
  have hok := H.ok i o ho
  obtain ⟨n1, n2, n3⟩ := H.one ho
  have hb : o.b < w.heap.size := hok.lt _ (.inl rfl)
  have kc : ∀ j, w'.cell? ⟨o.b, j, none⟩ = w.cell? ⟨o.b, j, none⟩ := fun j => f.cell (a := ⟨o.b, j, none⟩) hb n2
  have kf : ∀ j, w'.frozen? ⟨o.b, j, none⟩ = false := fun j => (f.frozen (a := ⟨o.b, j, none⟩) hb n2).trans (hok.free j)
  obtain ⟨c0, c1⟩ := rec_cells hok hk7
  have hc : w'.cell? ⟨o.b, 0, none⟩ = some o.kv := (kc _).trans c0
  have hvb : v.ownBlock ≠ some o.b := fun e => by
    rcases hv with q | q
    · exact n2 (q ▸ e)
    · have := q _ e; omega
  have f2 : Fr (fun k => k = o.b) w' (w'.setCell ⟨o.b, 0, none⟩ v) := (Fr.refl (fun k => k = o.b) w').setCell ⟨o.b, 0, none⟩ (.inr rfl) _
  have fa : Fr o.mine w (w'.setCell ⟨o.b, 0, none⟩ v) := (f.mono (fun k _ e => .inr (.inr e))).trans (f2.mono (fun k _ e => .inl e))
  have hok' : ({ o with kv := v, keys := l } : OD).ok (w'.setCell ⟨o.b, 0, none⟩ v) := by
    refine ⟨hok.kind, fun j u hu => ?_, fun j => by rw [World.frozen?_setCell]; exact kf j, (hok.items.fr f (fun k hk e => n3 k hk e)).fr f2 (fun k hk e => n1 (e ▸ hk)), hr.fr f2 (fun k hk e => hvb (e ▸ hk)), fun e => absurd hk7 e⟩
    have e1 : ({ o with kv := v, keys := l } : OD).cells = [v, o.iv] := by simp [OD.cells, hk7]
    rw [e1] at hu
    have hj : j < 2 := (List.getElem?_eq_some_iff.1 hu).1
    match j, hj with
    | 0, _ => simp at hu; subst hu; exact World.cell?_setCell_same _ _ _ hc
    | 1, _ => simp at hu; subst hu; rw [World.cell?_setCell_other _ _ _ _ (by simp)]; exact (kc 1).trans c1
  obtain ⟨a1, a2, a3⟩ := H.turn (o' := { o with kv := v, keys := l }) ho fa rfl rfl hok' (.inl rfl) hv (fun k hk e => by
    rcases hv with q | q
    · exact n3 k hk (q ▸ e)
    · have h1 := q k e
      have h2 := hok.lt k (.inr (.inl hk))
      omega)
  exact ⟨hc, kf _, a1, a2, a3⟩
end
theorem Now.trans {w w1 w2 : World} {h : Nat} {bud sp sp1 sp2 : Int} {ov : Value} {os os1 os2 : List OD} (N : Now w h bud sp ov os w1 sp1 os1) (M : ∀ ov1, Hp w1 h bud sp1 ov1 os1 → Now w1 h bud sp1 ov1 os1 w2 sp2 os2) : Now w h bud sp ov os w2 sp2 os2 := by
  obtain ⟨ov1, H1, f1, F1⟩ := N
  obtain ⟨ov2, H2, f2, F2⟩ := M ov1 H1
  have hs := f1.size
  refine ⟨ov2, H2, ⟨f2.os.trans f1.os, f2.tape.trans f1.tape, f2.output.trans f1.output, Nat.le_trans hs f2.size, fun k hk hn => ?_⟩, fun k hk => ?_⟩
  · rw [f2.block k (by omega) (fun e => ?_)]
    · exact f1.block k hk hn
    · rcases F1 k e with q | q
      · exact hn q
      · omega
  · rcases F2 k hk with q | q
    · exact F1 k q
    · exact .inr (by omega)
set_option maxRecDepth 100000 in
set_option maxHeartbeats 1600000 in
theorem has_any {w : World} {h : Nat} {bud sp : Int} {ov : Value} {os : List OD} (H : Hp w h bud sp ov os) (kk n : Int) {o : OD} (hm : nm os kk n = some o) (hk : o.k = 7) (key : Int) :
    Calls Try.prog 39 #[.pointer (some ⟨h, 0, none⟩), .agg #[.int .i64 kk, .int .i64 n], .int .i64 key] w fun e w' => e = .returned (.tuple #[.bool (fx o.keys key).isSome, .int .i64 0]) ∧ Below w.heap.size w w' := by
  have hB : Below w.heap.size w (w.alloc (.cells #[.int .i64 kk, .int .i64 n] 33)) := (Below.refl _ _).alloc (Nat.le_refl _) _
  have HC := field_any (H.below hB) kk n hm hk key
  have HB := hide hB
  obtain ⟨b0, b1⟩ := two_new w (.int .i64 kk) (.int .i64 n) 33
  have hl := H.hlt
  clear H hB hm hk
  cases e : fx o.keys key with
  | some i =>
    rw [e] at HC
    unfold fieldV at HC
    have HC := hide HC
    simp only [Option.isSome_some]
    go_enter Try.func39, Try.ntmps39
    go_wp2_with fail
    refine (unhide HC).mono ?_
    rintro e1 w1 ⟨rfl, hb1⟩
    have HB2 := hide ((unhide HB).trans (hb1.mono (unhide HB).size))
    clear hb1
    go_wp2_with fail
    go_ret2
    exact ⟨rfl, unhide HB2⟩
  | none =>
    rw [e] at HC
    unfold fieldV at HC
    have HC := hide HC
    simp only [Option.isSome_none]
    go_enter Try.func39, Try.ntmps39
    go_wp2_with fail
    refine (unhide HC).mono ?_
    rintro e1 w1 ⟨rfl, hb1⟩
    have HB2 := hide ((unhide HB).trans (hb1.mono (unhide HB).size))
    clear hb1
    go_wp2_with fail
    go_ret2
    exact ⟨rfl, unhide HB2⟩
set_option maxRecDepth 100000 in
set_option maxHeartbeats 3200000 in
theorem getf_any {w : World} {h : Nat} {bud sp : Int} {ov : Value} {os : List OD} (H : Hp w h bud sp ov os) (kk n : Int) {o : OD} (hm : nm os kk n = some o) (hk : o.k = 7) (key : Int) {i : Nat} (hi : fx o.keys key = some i) {x : Int × Int} (hx : o.its[i]? = some x) :
    Calls Try.prog 38 #[.pointer (some ⟨h, 0, none⟩), .agg #[.int .i64 kk, .int .i64 n], .int .i64 key] w fun e w' => e = .returned (.tuple #[.agg #[.int .i64 x.1, .int .i64 x.2], .int .i64 0]) ∧ Below w.heap.size w w' := by
  have hB : Below w.heap.size w ((w.alloc (.cells #[.int .i64 kk, .int .i64 n] 33)).alloc (.cells #[.int .i64 0, .int .i64 0] 33)) := ((Below.refl _ _).alloc (Nat.le_refl _) _).alloc (by simp) _
  have HC := field_any (H.below hB) kk n hm hk key
  rw [hi] at HC
  unfold fieldV at HC
  have HC := hide HC
  have HB := hide hB
  have hz1 : (w.alloc (.cells #[.int .i64 kk, .int .i64 n] 33)).heap.size = w.heap.size + 1 := by simp
  have hz2 : ((w.alloc (.cells #[.int .i64 kk, .int .i64 n] 33)).alloc (.cells #[.int .i64 0, .int .i64 0] 33)).heap.size = w.heap.size + 2 := by simp
  obtain ⟨a0, a1⟩ := two_new w (.int .i64 kk) (.int .i64 n) 33
  have a0' : ((w.alloc (.cells #[.int .i64 kk, .int .i64 n] 33)).alloc (.cells #[.int .i64 0, .int .i64 0] 33)).cell? ⟨w.heap.size, 0, none⟩ = some (.int .i64 kk) := (World.cell?_of_block (Below.heap_alloc _ _ _ (by simp))).trans a0
  have a1' : ((w.alloc (.cells #[.int .i64 kk, .int .i64 n] 33)).alloc (.cells #[.int .i64 0, .int .i64 0] 33)).cell? ⟨w.heap.size, 1, none⟩ = some (.int .i64 n) := (World.cell?_of_block (Below.heap_alloc _ _ _ (by simp))).trans a1
  have HX := hide (two_new (w.alloc (.cells #[.int .i64 kk, .int .i64 n] 33)) (.int .i64 0) (.int .i64 0) 33)
  have HXF : Hid (∀ j, ((w.alloc (.cells #[.int .i64 kk, .int .i64 n] 33)).alloc (.cells #[.int .i64 0, .int .i64 0] 33)).frozen? ⟨w.heap.size + 1, j, none⟩ = false) := fun j => by
    have := frozen_new (w.alloc (.cells #[.int .i64 kk, .int .i64 n] 33)) #[.int .i64 0, .int .i64 0] 33 j
    rw [hz1] at this
    exact this
  have hl := H.hlt
  have HH := hide H
  have HK := hide (And.intro (nm_some hm).2.1 (And.intro hk hx))
  clear H hB hm hk hx hi a0 a1
  go_enter Try.func38, Try.ntmps38
  go_wp2_with fail
  refine (unhide HC).mono ?_
  rintro e1 w1 ⟨rfl, hb1⟩
  have hb2 := (unhide HB).trans (hb1.mono (unhide HB).size)
  obtain ⟨ho, hk, hx⟩ := unhide HK
  have H1 := (unhide HH).below hb2
  have hok := H1.ok _ _ ho
  obtain ⟨c0, c1⟩ := rec_cells hok hk
  obtain ⟨g, off, cap, ie, icl, icm, hgl, g0, g1⟩ := hok.items.pair hx
  have hil : i < o.its.length := (List.getElem?_eq_some_iff.1 hx).1
  rw [ie] at c1
  have hbl : o.b < w1.heap.size := hok.lt _ (.inl rfl)
  have hqx : w.heap.size + 1 < ((w.alloc (.cells #[.int .i64 kk, .int .i64 n] 33)).alloc (.cells #[.int .i64 0, .int .i64 0] 33)).heap.size := by omega
  have x0 : w1.cell? ⟨w.heap.size + 1, 0, none⟩ = some (.int .i64 0) := (hb1.cell (p := ⟨w.heap.size + 1, 0, none⟩) hqx).trans (by have := (unhide HX).1; rw [hz1] at this; exact this)
  have x1 : w1.cell? ⟨w.heap.size + 1, 1, none⟩ = some (.int .i64 0) := (hb1.cell (p := ⟨w.heap.size + 1, 1, none⟩) hqx).trans (by have := (unhide HX).2; rw [hz1] at this; exact this)
  have xf : ∀ j, w1.frozen? ⟨w.heap.size + 1, j, none⟩ = false := fun j => (World.frozen?_of_block (hb1.block _ hqx)).trans (unhide HXF j)
  have xf0 := xf 0
  have xf1 := xf 1
  have hxl : w.heap.size + 1 < w1.heap.size := World.block_lt_of_cell? _ _ x0
  have i0 : (0 : Int) ≤ (i : Int) := by omega
  have i1 : (i : Int) < (o.its.length : Int) := by omega
  have HB2 := hide hb2
  obtain ⟨z0, z1, zf⟩ := put2 x0 x1 (.int .i64 x.1) (.int .i64 x.2)
  have ZF := hide zf
  unfold maxLen at icm
  clear H1 hok ie hb1 hb2 ho hk hx c0 xf zf
  go_wp2_with fail
  clear x0 x1 xf0 xf1
  generalize (w1.setCell ⟨w.heap.size + 1, 0, none⟩ (.int .i64 x.1)).setCell ⟨w.heap.size + 1, 1, none⟩ (.int .i64 x.2) = W at *
  refine bodyPost_ret (v := .tuple #[.agg #[.int .i64 x.1, .int .i64 x.2], .int .i64 0]) (by simp [results, Try.results38, go_sem, z0, z1]) rfl ?_
  exact ⟨rfl, (unhide HB2).trans ((unhide ZF).below (unhide HB2).size (fun k hk e => by omega))⟩
theorem kwo (l : List Int) (i : Nat) (h : i < l.length) : wo 1 i (kcells l) = kcells (l.eraseIdx i) := by
  unfold wo kcells
  simp only [Nat.mul_one]
  rw [← List.map_take, ← List.map_drop, ← List.map_append, List.eraseIdx_eq_take_drop_succ]
theorem fwo (l : List (Int × Int)) (i : Nat) (h : i < l.length) : wo 2 i (flat l) = flat (l.eraseIdx i) := by
  unfold wo
  rw [flat_take, flat_drop, ← flat_append, List.eraseIdx_eq_take_drop_succ]
set_option maxRecDepth 100000 in
set_option maxHeartbeats 1600000 in
theorem del_none {w : World} {h : Nat} {bud sp : Int} {ov : Value} {os : List OD} (H : Hp w h bud sp ov os) (kk n : Int) {o : OD} (hm : nm os kk n = some o) (hk : o.k = 7) (key : Int) (hi : fx o.keys key = none) :
    Calls Try.prog 20 #[.pointer (some ⟨h, 0, none⟩), .agg #[.int .i64 kk, .int .i64 n], .int .i64 key] w fun e w' => e = .returned (.int .i64 4) ∧ Below w.heap.size w w' := by
  have hB : Below w.heap.size w (w.alloc (.cells #[.int .i64 kk, .int .i64 n] 33)) := (Below.refl _ _).alloc (Nat.le_refl _) _
  have HC := field_any (H.below hB) kk n hm hk key
  rw [hi] at HC
  unfold fieldV at HC
  have HC := hide HC
  have HB := hide hB
  obtain ⟨b0, b1⟩ := two_new w (.int .i64 kk) (.int .i64 n) 33
  have hl := H.hlt
  clear H hB hm hk hi
  go_enter Try.func20, Try.ntmps20
  go_wp2_with fail
  refine (unhide HC).mono ?_
  rintro e1 w1 ⟨rfl, hb1⟩
  have HB2 := hide ((unhide HB).trans (hb1.mono (unhide HB).size))
  clear hb1
  go_wp2_with fail
  go_ret
  exact ⟨rfl, unhide HB2⟩
end Go.Proofs.Ytkpngfahnpidkaa
