/-
  What making an object costs; lay.
-/
import Derived.Test.YtkpngfahnpidkaaHRecv
namespace Go.Proofs.Ytkpngfahnpidkaa
open Go.RowKit
set_option linter.unusedVariables false

/-- What an object costs. -/
def OD.price (o : OD) : Int := match o.k with
  | 6 => 2 + (o.its.length : Int)
  | 7 => 2
  | 8 => 2 + (o.its.length : Int)
  | _ => 2 + o.m
theorem Try.info81 : (Try.prog.info? 81).map (fun i => (i.zero, i.size, i.bytes)) = some (some .nilIface, 1, 16) := by kernel_rfl
/-- Behind lay: an object more. -/
def Laid (w : World) (h : Nat) (bud : Int) (ov : Value) (os : List OD) (o : OD) (w' : World) (sp' : Int) : Prop :=
  ∃ ov', Hp w' h bud sp' ov' (os ++ [o]) ∧ Fr (Fts h ov os) w w' ∧ ∀ k, Fts h ov' (os ++ [o]) k → Fts h ov os k ∨ o.mine k ∨ w.heap.size ≤ k
theorem wpList_app {P : Program} {w : World} {ops : Array Oper} {rest : List Oper} {o : Oper} {a : Act} {Q : Exit → Act → World → Prop}
    (hg : o.guard = none) (s x : Operand) (t : TypeId) (hop : o.op = Op.call { callee := Callee.builtin Builtin.append, args := #[s, x], argTypes := #[t, t] })
    (e : TypeId) (i : TypeInfo) (z : Value) (size bytes : Nat) (h1 : P.underlying t = some (.slice e)) (h2 : P.info? e = some i) (h3 : i.zero = some z) (h4 : i.size = size) (h5 : i.bytes = bytes) (h6 : z.cells.size = size) (h7 : 0 < size)
    (v : Value) (n : Nat) (xs : List Value) (hs : a.eval s = v) (hr : Ro w size v n xs) (ad : Addr) (m c : Nat) (news : List Value) (hx : a.eval x = .slice (some ad) m c) (hn : news.length = m * size) (hc : ∀ j u, news[j]? = some u → w.cell? (ad.add j) = some u) (h1c : ∀ u ∈ news, u.oneCell' = true)
    (h0 : 0 < m) (b1 : n + m ≤ maxLen) (b2 : (n + m) * bytes ≤ 140737488355328)
    (hK : ∀ v' w', Ro w' size v' (n + m) (xs ++ news) → w.grownBy w' v.ownBlock → (v'.ownBlock = v.ownBlock ∨ v'.ownBlock = some w.heap.size) → wpList P ops Q rest (a.put o.dst v') w') :
    wpList P ops Q (o :: rest) a w := by
  refine wpList_plain hg fun K hK' => ?_
  obtain ⟨v', w', hrun, r1, r2, r3⟩ := Ro.app (P := P) t o.type e i z size bytes h1 h2 h3 h4 h5 h6 h7 hr ad m c news hn hc h1c h0 b1 b2
  unfold Oper.wp
  simp [execOp, hop, resolve, invoke, builtin, hs, hx, hrun, Result.andThen]
  exact hK' _ _ (hK v' w' r1 r2 r3)
/-- append of one value. -/
theorem wpList_appV {w : World} {ops : Array Oper} {rest : List Oper} {o : Oper} {a : Act} {Q : Exit → Act → World → Prop}
    (hg : o.guard = none) (s x : Operand) (hop : o.op = Op.call { callee := Callee.builtin Builtin.append, args := #[s, x], argTypes := #[36, 36] })
    (v : Value) (l : List (Int × Int)) (hs : a.eval s = v) (hr : Ro w 2 v l.length (flat l)) (ad : Addr) (c : Nat) (k n : Int) (hx : a.eval x = .slice (some ad) 1 c) (hc : ∀ j u, [Value.int .i64 k, .int .i64 n][j]? = some u → w.cell? (ad.add j) = some u)
    (hN : l.length ≤ 8000000000000)
    (hK : ∀ v' w', Ro w' 2 v' (l ++ [(k, n)]).length (flat (l ++ [(k, n)])) → w.grownBy w' v.ownBlock → (v'.ownBlock = v.ownBlock ∨ v'.ownBlock = some w.heap.size) → wpList Try.prog ops Q rest (a.put o.dst v') w') :
    wpList Try.prog ops Q (o :: rest) a w := by
  obtain ⟨i0, hi0, hz0, hz1, hz2⟩ := info_parts Try.info33
  refine wpList_app hg s x 36 hop 33 i0 _ 2 16 Try.underlying36 hi0 hz0 hz1 hz2 rfl (by decide) v l.length (flat l) hs hr ad 1 c [.int .i64 k, .int .i64 n] hx rfl hc (by simp [Value.oneCell']) (by omega) (by unfold maxLen; omega) (by omega) (fun v' w' r1 r2 r3 => hK v' w' ?_ r2 r3)
  rw [flat_append, List.length_append]
  exact r1
/-- append of one object. -/
theorem wpList_appO {w : World} {ops : Array Oper} {rest : List Oper} {o : Oper} {a : Act} {Q : Exit → Act → World → Prop}
    (hg : o.guard = none) (s x : Operand) (hop : o.op = Op.call { callee := Callee.builtin Builtin.append, args := #[s, x], argTypes := #[62, 62] })
    (v : Value) (n : Nat) (xs : List Value) (hs : a.eval s = v) (hr : Ro w 1 v n xs) (ad : Addr) (c : Nat) (t : TypeId) (p : Value) (hx : a.eval x = .slice (some ad) 1 c) (hc : ∀ j u, [Value.iface t p][j]? = some u → w.cell? (ad.add j) = some u)
    (hN : n ≤ 4000000000000)
    (hK : ∀ v' w', Ro w' 1 v' (n + 1) (xs ++ [Value.iface t p]) → w.grownBy w' v.ownBlock → (v'.ownBlock = v.ownBlock ∨ v'.ownBlock = some w.heap.size) → wpList Try.prog ops Q rest (a.put o.dst v') w') :
    wpList Try.prog ops Q (o :: rest) a w := by
  obtain ⟨i0, hi0, hz0, hz1, hz2⟩ := info_parts Try.info81
  exact wpList_app hg s x 62 hop 81 i0 _ 1 16 Try.underlying62 hi0 hz0 hz1 hz2 rfl (by decide) v n xs hs hr ad 1 c [.iface t p] hx rfl hc (by simp [Value.oneCell']) (by omega) (by unfold maxLen; omega) (by omega) hK
theorem one_new (w : World) (u : Value) (e : TypeId) : ∀ j z, [u][j]? = some z → (w.alloc (.cells #[u] e)).cell? ((⟨w.heap.size, 0, none⟩ : Addr).add j) = some z := fun j z hz => by
  have hg := heap_alloc_new w (.cells #[u] e)
  rw [Go.WideShapes.add_plain]
  have hj : j < 1 := (List.getElem?_eq_some_iff.1 hz).1
  match j, hj with
  | 0, _ => simp only [World.cell?, hg]; simpa using hz
theorem Laid.of {w W4 W7 W8 : World} {h : Nat} {bud sp' : Int} {ov ov' : Value} {os : List OD} {o : OD} (hlt : ∀ k, Fts h ov os k → k < w.heap.size) (hml : ∀ k, o.mine k → k < w.heap.size) (f : Fr (Fts h ov os) w W4) (N : Hp W7 h bud sp' ov' (os ++ [o])) (f7 : Fr (Fts h ov os) W4 W7)
    (hF : ∀ k, Fts h ov' (os ++ [o]) k → Fts h ov os k ∨ o.mine k ∨ W4.heap.size ≤ k) (hz : w.heap.size < W4.heap.size) (fz : Fr (fun k => k = w.heap.size) W7 W8) : Laid w h bud ov os o W8 sp' := by
  have fa := f.trans f7
  refine ⟨ov', N.keep fz (fun k hk e => ?_), ?_, fun k hk => ?_⟩
  · rcases hF k hk with q | q | q
    · have := hlt k q; omega
    · have := hml k q; omega
    · omega
  · refine ⟨fz.os.trans fa.os, fz.tape.trans fa.tape, fz.output.trans fa.output, Nat.le_trans fa.size fz.size, fun k hk hn => ?_⟩
    rw [fz.block k (Nat.lt_of_lt_of_le hk fa.size) (by omega)]
    exact fa.block k hk hn
  · rcases hF k hk with q | q | q
    · exact .inl q
    · exact .inr (.inl q)
    · exact .inr (.inr (by omega))
set_option maxRecDepth 100000 in
set_option maxHeartbeats 800000 in
theorem price6_any {w : World} {o : OD} (hok : o.ok w) (hk : o.k = 6) (hm : o.price < 9223372036854775808 ∧ -9223372036854775808 ≤ o.price) : Calls Try.prog 110 #[.pointer (some ⟨o.b, 0, none⟩)] w fun e w' => e = .returned (.int .i64 o.price) ∧ w' = w := by
  have ep : o.price = 2 + (o.its.length : Int) := by simp only [OD.price, hk]
  rw [ep] at hm ⊢
  have hc := OD.cell_iv hok
  have ei : o.ci = 0 := by unfold OD.ci; rw [hk]; rfl
  obtain ⟨ia, icap, ie, _, _⟩ := hok.items.shape
  rw [ie, ei] at hc
  have hl := hok.lt _ (.inl rfl)
  clear hok ie ei
  go_enter Try.func110, Try.ntmps110
  go_wp2
  go_ret
  exact ⟨rfl, rfl⟩
set_option maxRecDepth 100000 in
set_option maxHeartbeats 800000 in
theorem price7_any {w : World} {o : OD} (hok : o.ok w) (hk : o.k = 7) (hm : o.price < 9223372036854775808 ∧ -9223372036854775808 ≤ o.price) : Calls Try.prog 114 #[.pointer (some ⟨o.b, 0, none⟩)] w fun e w' => e = .returned (.int .i64 o.price) ∧ w' = w := by
  have ep : o.price = 2 := by simp only [OD.price, hk]
  rw [ep]
  clear hm hok
  go_enter Try.func114, Try.ntmps114
  go_wp2
  go_ret
  exact ⟨rfl, rfl⟩
set_option maxRecDepth 100000 in
set_option maxHeartbeats 800000 in
theorem price8_any {w : World} {o : OD} (hok : o.ok w) (hk : o.k = 8) (hm : o.price < 9223372036854775808 ∧ -9223372036854775808 ≤ o.price) : Calls Try.prog 119 #[.pointer (some ⟨o.b, 0, none⟩)] w fun e w' => e = .returned (.int .i64 o.price) ∧ w' = w := by
  have ep : o.price = 2 + (o.its.length : Int) := by simp only [OD.price, hk]
  rw [ep] at hm ⊢
  have hc := OD.cell_iv hok
  have ei : o.ci = 1 := by unfold OD.ci; rw [hk]; rfl
  obtain ⟨ia, icap, ie, _, _⟩ := hok.items.shape
  rw [ie, ei] at hc
  have hl := hok.lt _ (.inl rfl)
  clear hok ie ei
  go_enter Try.func119, Try.ntmps119
  go_wp2
  go_ret
  exact ⟨rfl, rfl⟩
set_option maxRecDepth 100000 in
set_option maxHeartbeats 800000 in
theorem price9_any {w : World} {o : OD} (hok : o.ok w) (hk : o.k = 9) (hm : o.price < 9223372036854775808 ∧ -9223372036854775808 ≤ o.price) : Calls Try.prog 106 #[.pointer (some ⟨o.b, 0, none⟩)] w fun e w' => e = .returned (.int .i64 o.price) ∧ w' = w := by
  have ep : o.price = 2 + o.m := by simp only [OD.price, hk]
  rw [ep] at hm ⊢
  have hc := (chan_cells hok hk).1
  have hl := hok.lt _ (.inl rfl)
  clear hok
  go_enter Try.func106, Try.ntmps106
  go_wp2
  go_ret
  exact ⟨rfl, rfl⟩
set_option maxRecDepth 100000 in
set_option maxHeartbeats 3200000 in
theorem lay6_no {w : World} {h : Nat} {bud sp : Int} {ov : Value} {os : List OD} (H : Hp w h bud sp ov os) (hb : 0 ≤ bud ∧ bud < 9223372036854775808) (hs : 0 ≤ sp ∧ sp < 9223372036854775808) {o : OD} (hok : o.ok w) (hk : o.k = 6) (hpr : o.price < 9223372036854775808 ∧ -9223372036854775808 ≤ o.price) (hr : o.price < 0 ∨ bud - sp < o.price) :
    Calls Try.prog 31 #[.pointer (some ⟨h, 0, none⟩), .iface 83 (.pointer (some ⟨o.b, 0, none⟩))] w fun e w' => e = .returned (.tuple #[.agg #[.int .i64 0, .int .i64 0], .bool false]) ∧ Below w.heap.size w w' := by
  have hB : Below w.heap.size w (w.alloc (.cells #[.int .i64 0, .int .i64 0] 33)) := (Below.refl _ _).alloc (Nat.le_refl _) _
  have H0 := H.below hB
  have hok0 : o.ok (w.alloc (.cells #[.int .i64 0, .int .i64 0] 33)) := hok.keep (Fr.of_below (S := fun _ => False) hB) (fun _ _ e => e)
  have ef : o.face = .iface 83 (.pointer (some ⟨o.b, 0, none⟩)) := by unfold OD.face; rw [hk]; rfl
  have HPR := hide (price6_any hok0 hk hpr)
  obtain ⟨r0, r1⟩ := two_new w (.int .i64 0) (.int .i64 0) 33
  have rf : ∀ j, (w.alloc (.cells #[.int .i64 0, .int .i64 0] 33)).frozen? ⟨w.heap.size, j, none⟩ = false := fun j => by
    have := heap_alloc_new w (.cells #[.int .i64 0, .int .i64 0] 33)
    unfold World.frozen?
    simp only
    rw [this]
    simp
  have hl := H.hlt
  have hz0 : (w.alloc (.cells #[.int .i64 0, .int .i64 0] 33)).heap.size = w.heap.size + 1 := by simp
  have HSP := hide (spend_no H0 hb hs o.price hr)
  have HB := hide hB
  clear H H0 hok hok0 ef hB hr hpr hk
  go_enter Try.func31, Try.ntmps31
  go_wp2_with fail
  refine (unhide HPR).mono ?_
  rintro e1 w1 ⟨rfl, rfl⟩
  go_wp2_with fail
  refine (unhide HSP).mono ?_
  rintro e2 w2 ⟨rfl, nk, rfl⟩
  have q0 : ((w.alloc (.cells #[.int .i64 0, .int .i64 0] 33)).drewN nk).cell? ⟨w.heap.size, 0, none⟩ = some (.int .i64 0) := r0
  have q1 : ((w.alloc (.cells #[.int .i64 0, .int .i64 0] 33)).drewN nk).cell? ⟨w.heap.size, 1, none⟩ = some (.int .i64 0) := r1
  have qf0 : ((w.alloc (.cells #[.int .i64 0, .int .i64 0] 33)).drewN nk).frozen? ⟨w.heap.size, 0, none⟩ = false := rf 0
  have qf1 : ((w.alloc (.cells #[.int .i64 0, .int .i64 0] 33)).drewN nk).frozen? ⟨w.heap.size, 1, none⟩ = false := rf 1
  have hzW : ((w.alloc (.cells #[.int .i64 0, .int .i64 0] 33)).drewN nk).heap.size = w.heap.size + 1 := hz0
  have HBW : Hid (Below w.heap.size w ((w.alloc (.cells #[.int .i64 0, .int .i64 0] 33)).drewN nk)) := (unhide HB).trans ((Fr.drewN (S := fun _ => False) nk).below (by simp) (fun _ _ e => e))
  clear r0 r1 rf hz0
  generalize (w.alloc (.cells #[.int .i64 0, .int .i64 0] 33)).drewN nk = W at *
  have hwl : w.heap.size < W.heap.size := by omega
  obtain ⟨z0, z1, zf⟩ := put2 q0 q1 (.int .i64 0) (.int .i64 0)
  have ZF := hide zf
  clear zf
  go_wp2_with fail
  generalize (W.setCell ⟨w.heap.size, 0, none⟩ (.int .i64 0)).setCell ⟨w.heap.size, 1, none⟩ (.int .i64 0) = W' at *
  refine bodyPost_ret (v := .tuple #[.agg #[.int .i64 0, .int .i64 0], .bool false]) (by simp [results, Try.results31, go_sem, z0, z1]) rfl ?_
  exact ⟨rfl, (unhide HBW).trans ((unhide ZF).below (unhide HBW).size (fun k hk e => by omega))⟩
set_option maxRecDepth 100000 in
set_option maxHeartbeats 3200000 in
theorem lay6_ok {w : World} {h : Nat} {bud sp : Int} {ov : Value} {os : List OD} (H : Hp w h bud sp ov os) (hb : 0 ≤ bud ∧ bud < 9223372036854775808) (hs : 0 ≤ sp ∧ sp < 9223372036854775808) {o : OD} (hok : o.ok w) (hk : o.k = 6) (hpr : o.price < 9223372036854775808 ∧ -9223372036854775808 ≤ o.price) (hr0 : 0 ≤ o.price) (hr : o.price ≤ bud - sp)
    (hne : ∀ k, o.mine k → ¬ Fts h ov os k) (ho1 : o.iv.ownBlock ≠ some o.b ∧ o.kv.ownBlock ≠ some o.b ∧ ∀ k, o.iv.ownBlock = some k → o.kv.ownBlock ≠ some k) (hL : os.length ≤ 4000000000000) :
    Calls Try.prog 31 #[.pointer (some ⟨h, 0, none⟩), .iface 83 (.pointer (some ⟨o.b, 0, none⟩))] w fun e w' => e = .returned (.tuple #[.agg #[.int .i64 6, .int .i64 (os.length : Int)], .bool true]) ∧ Laid w h bud ov os o w' (sp + o.price) := by
  have hB : Below w.heap.size w (w.alloc (.cells #[.int .i64 0, .int .i64 0] 33)) := (Below.refl _ _).alloc (Nat.le_refl _) _
  have H0 := H.below hB
  have hok0 : o.ok (w.alloc (.cells #[.int .i64 0, .int .i64 0] 33)) := hok.keep (Fr.of_below (S := fun _ => False) hB) (fun _ _ e => e)
  have ef : o.face = .iface 83 (.pointer (some ⟨o.b, 0, none⟩)) := by unfold OD.face; rw [hk]; rfl
  have HPR := hide (price6_any hok0 hk hpr)
  obtain ⟨r0, r1⟩ := two_new w (.int .i64 0) (.int .i64 0) 33
  have rf : ∀ j, (w.alloc (.cells #[.int .i64 0, .int .i64 0] 33)).frozen? ⟨w.heap.size, j, none⟩ = false := fun j => by
    have := heap_alloc_new w (.cells #[.int .i64 0, .int .i64 0] 33)
    unfold World.frozen?
    simp only
    rw [this]
    simp
  have hl := H.hlt
  have hz0 : (w.alloc (.cells #[.int .i64 0, .int .i64 0] 33)).heap.size = w.heap.size + 1 := by simp
  have HSP := hide (spend_ok H0 hb hs o.price hr0 hr)
  have HB := hide hB
  have HH := hide H
  have HOK := hide hok
  have HNE := hide hne
  have HO1 := hide ho1
  have EF := hide ef
  clear H H0 hok hok0 ef hB hr hr0 hpr hk hne ho1
  go_enter Try.func31, Try.ntmps31
  go_wp2_with fail
  refine (unhide HPR).mono ?_
  rintro e1 w1 ⟨rfl, rfl⟩
  go_wp2_with fail
  refine (unhide HSP).mono ?_
  rintro e2 w2 ⟨rfl, H2, f2, hz2⟩
  have fsl : ∀ k, Fts h ov os k → k < w.heap.size := (unhide HH).lt
  have qb : ∀ j, w2.cell? ⟨w.heap.size, j, none⟩ = (w.alloc (.cells #[.int .i64 0, .int .i64 0] 33)).cell? ⟨w.heap.size, j, none⟩ := fun j => f2.cell (a := ⟨w.heap.size, j, none⟩) (by simp) (fun e => by have : w.heap.size < w.heap.size := fsl _ e; omega)
  have q0 := (qb 0).trans r0
  have q1 := (qb 1).trans r1
  have qf : ∀ j, w2.frozen? ⟨w.heap.size, j, none⟩ = false := fun j => (f2.frozen (a := ⟨w.heap.size, j, none⟩) (by simp) (fun e => by have : w.heap.size < w.heap.size := fsl _ e; omega)).trans (rf j)
  have hw2 : w2.heap.size = w.heap.size + 1 := by omega
  have hl2 : h < w2.heap.size := by omega
  obtain ⟨oa, ocap, oe, ocl, ocm⟩ := H2.row.shape
  have c2 := H2.c2
  rw [oe] at c2
  have FF : Hid (Fr (Fts h ov os) w w2) := ((Fr.of_below (unhide HB)).trans f2)
  have HH2 := hide H2
  have OE := hide oe
  have QF := hide qf
  have FSL := hide fsl
  clear H2 f2 hz2 qb qf r0 r1 rf oe fsl
  have hBa : Below w2.heap.size w2 (w2.alloc (.cells #[.int .i64 6, .int .i64 (os.length : Int)] 33)).drew := ((Below.refl _ _).alloc (Nat.le_refl _) _).drew
  have HS4 : Hid ((w2.alloc (.cells #[.int .i64 6, .int .i64 (os.length : Int)] 33)).drew.cell? ⟨h, 2, none⟩ = some (.slice oa os.length ocap) ∧ h < (w2.alloc (.cells #[.int .i64 6, .int .i64 (os.length : Int)] 33)).drew.heap.size) := ⟨(hBa.cell (p := ⟨h, 2, none⟩) hl2).trans c2, Nat.lt_of_lt_of_le hl2 hBa.size⟩
  have H4 : Hid ((w2.alloc (.cells #[.int .i64 6, .int .i64 (os.length : Int)] 33)).drew.cell? ⟨w2.heap.size, 0, none⟩ = some (.int .i64 6) ∧ (w2.alloc (.cells #[.int .i64 6, .int .i64 (os.length : Int)] 33)).drew.cell? ⟨w2.heap.size, 1, none⟩ = some (.int .i64 (os.length : Int)) ∧ (w2.alloc (.cells #[.int .i64 6, .int .i64 (os.length : Int)] 33)).drew.cell? ⟨w.heap.size, 0, none⟩ = some (.int .i64 0) ∧ (w2.alloc (.cells #[.int .i64 6, .int .i64 (os.length : Int)] 33)).drew.cell? ⟨w.heap.size, 1, none⟩ = some (.int .i64 0) ∧ (w2.alloc (.cells #[.int .i64 6, .int .i64 (os.length : Int)] 33)).drew.frozen? ⟨w.heap.size, 0, none⟩ = false ∧ (w2.alloc (.cells #[.int .i64 6, .int .i64 (os.length : Int)] 33)).drew.frozen? ⟨w.heap.size, 1, none⟩ = false ∧ Below w2.heap.size w2 (w2.alloc (.cells #[.int .i64 6, .int .i64 (os.length : Int)] 33)).drew ∧ (w2.alloc (.cells #[.int .i64 6, .int .i64 (os.length : Int)] 33)).drew.heap.size = w2.heap.size + 1) := by
    obtain ⟨u0, u1⟩ := two_new w2 (.int .i64 6) (.int .i64 (os.length : Int)) 33
    refine ⟨u0, u1, (hBa.cell (p := ⟨w.heap.size, 0, none⟩) (by show w.heap.size < _; omega)).trans q0, (hBa.cell (p := ⟨w.heap.size, 1, none⟩) (by show w.heap.size < _; omega)).trans q1, (World.frozen?_of_block (hBa.block _ (by show w.heap.size < _; omega))).trans (unhide QF 0), (World.frozen?_of_block (hBa.block _ (by show w.heap.size < _; omega))).trans (unhide QF 1), hBa, by show (w2.alloc _).heap.size = _; simp⟩
  have HSA : Hid ((w2.alloc (.cells #[.int .i64 0, .int .i64 0] 33)).drew.cell? ⟨h, 2, none⟩ = some (.slice oa os.length ocap) ∧ h < (w2.alloc (.cells #[.int .i64 0, .int .i64 0] 33)).drew.heap.size) := ⟨(World.cell?_of_block (a := ⟨h, 2, none⟩) (Below.heap_alloc _ _ _ hl2)).trans c2, by show h < (w2.alloc _).heap.size; simp; omega⟩
  clear hBa
  have HW2 := hide hw2
  clear hw2
  have hS : w2.cell? ⟨h, 2, none⟩ = some (.slice oa os.length ocap) ∧ h < w2.heap.size := ⟨c2, hl2⟩
  go_wp2_with fail
  refine wp_region_held_drew (S := (fun wx => wx.cell? ⟨h, 2, none⟩ = some (.slice oa os.length ocap) ∧ h < wx.heap.size)) (by kernel_rfl) hS (fun hHeld => ?_)
  refine wpAnyH_take (i := 0) (oi := _) (v := .iface 83 (.pointer (some ⟨o.b, 0, none⟩))) rfl (by kernel_rfl) (by kernel_rfl) (by kernel_rfl) (fun _ _ _ h => h) (Or.inl ⟨by rfl, (by intro w hSw; go_simp)⟩) (by assumption) ?_
  refine wpAnyH_take (i := 2) (oi := _) (v := .pointer (some ⟨h, 0, none⟩)) rfl (by kernel_rfl) (by kernel_rfl) (by kernel_rfl) (fun _ _ _ h => h) (Or.inl ⟨by rfl, (by intro w hSw; go_simp)⟩) (by assumption) ?_
  refine wpAnyH_take (i := 3) (oi := _) (v := .pointer (some ⟨h, 0, none⟩)) rfl (by kernel_rfl) (by kernel_rfl) (by kernel_rfl) (fun _ _ _ h => h) (Or.inl ⟨by rfl, (by intro w hSw; obtain ⟨hs1, hs2⟩ := hSw; go_simp)⟩) (by assumption) ?_
  go_simp
  refine wpAnyH_take (i := 4) (oi := _) (v := .pointer (some ⟨h, 2, none⟩)) rfl (by kernel_rfl) (by kernel_rfl) (by kernel_rfl) (fun _ _ _ h => h) (Or.inl ⟨by rfl, (by intro w hSw; obtain ⟨hs1, hs2⟩ := hSw; go_simp)⟩) (by assumption) ?_
  refine wpAnyH_take (i := 5) (oi := _) (v := .slice oa os.length ocap) rfl (by kernel_rfl) (by kernel_rfl) (by kernel_rfl) (fun _ _ _ h => h) (Or.inl ⟨by rfl, (by intro w hSw; obtain ⟨hs1, hs2⟩ := hSw; go_simp)⟩) (by assumption) ?_
  refine wpAnyH_take (i := 6) (oi := _) (v := .int .i64 (os.length : Int)) rfl (by kernel_rfl) (by kernel_rfl) (by kernel_rfl) (fun _ _ _ h => h) (Or.inl ⟨by rfl, (by intro w hSw; go_simp)⟩) (by assumption) ?_
  go_simp
  refine wpAnyH_ready (rs := [1, 8]) (by kernel_rfl) (by simp) ?_
  refine AllReadyH.cons (o := _) rfl (fun K hK => ?_) (AllReadyH.cons (o := _) rfl (fun K hK => ?_) AllReadyH.nil)
  · go_simp
    go_invoke
    go_simp
    refine (kind6_any _ _).mono ?_
    rintro e3 w3 ⟨rfl, rfl⟩
    go_simp
    refine hK.out _ _ hHeld (fun _ => ?_)
    clear hK K
    refine wpAnyH_take (i := 7) (oi := _) (v := .agg #[.int .i64 6, .int .i64 (os.length : Int)]) rfl (by kernel_rfl) (by kernel_rfl) (by kernel_rfl) (fun _ _ _ h => h) (Or.inl ⟨by rfl, (by intro w hSw; go_simp)⟩) (by assumption) ?_
    go_simp
    refine wpAnyH_ready (rs := [8]) (by kernel_rfl) (by simp) ?_
    refine AllReadyH.cons (o := _) rfl (fun K hK => ?_) AllReadyH.nil
    go_simp
    refine hK.out _ _ (unhide HSA) (fun _ => ?_)
    clear hK K
    refine wpAnyH_ready (rs := [9]) (by kernel_rfl) (by simp) ?_
    refine AllReadyH.cons (o := _) rfl (fun K hK => ?_) AllReadyH.nil
    go_simp
    refine hK.out _ _ (unhide HS4) (fun _ => ?_)
    clear hK K
    refine wpAnyH_done (by kernel_rfl) ?_ _
    clear hHeld c2 q0 q1 hS
    generalize (w2.alloc (.cells #[.int .i64 6, .int .i64 (os.length : Int)] 33)).drew = W4 at *
    obtain ⟨v0, v1, p0, p1, pf0, pf1, hB4, hz4⟩ := unhide H4
    have hw2 := unhide HW2
    have pc2 := (unhide HS4).1
    have hl4 : h < W4.heap.size := (unhide HS4).2
    have hwl : w.heap.size < W4.heap.size := by omega
    have hw2l : w2.heap.size < W4.heap.size := by omega
    have HN : Hid (Hp W4 h bud (sp + o.price) ov os) := (unhide HH2).below hB4
    have F4 : Hid (Fr (Fts h ov os) w W4) := (unhide FF).trans (Fr.of_below hB4)
    have HO4 : Hid (o.ok W4) := (unhide HOK).keep (unhide F4) (unhide HNE)
    have HRo : Hid (Ro W4 1 (.slice oa os.length ocap) os.length (os.map OD.face)) := by have := (unhide HN).row; rw [unhide OE] at this; exact this
    have HZ4 := hide hz4
    clear hB4 hw2 hz4
    go_wp2_with (first | (at_builtin; refine wpList_appO rfl _ _ rfl (.slice oa os.length ocap) os.length (os.map OD.face) rfl ((unhide HRo).keep (fun g hg => Below.heap_alloc _ _ _ ((unhide HRo).lt g hg))) ⟨W4.heap.size, 0, none⟩ 1 83 (.pointer (some ⟨o.b, 0, none⟩)) rfl (one_new _ _ _) hL ?_))
    intro v' w6 hr6 hg6 hat6
    obtain ⟨va, vcap, rfl, _⟩ := hr6.shape
    obtain ⟨k0, kf, A1, A2, A3⟩ := (unhide HN).more (unhide HO4) (unhide HNE) (unhide HO1) ((Below.refl _ _).alloc (Nat.le_refl _) _) (by rw [unhide OE]; exact hg6) (by rw [unhide EF]; exact hr6) (by rw [unhide OE]; simpa using hat6)
    rw [unhide OE] at k0
    have f6 : Fr (fun k => (Value.slice oa os.length ocap).ownBlock = some k) W4 w6 := ((Fr.refl _ W4).alloc _).grown hg6 (fun k e => .inr e)
    have hw2 := unhide HW2
    have hz4 := unhide HZ4
    have far : ∀ b, w.heap.size ≤ b → (Value.slice oa os.length ocap).ownBlock ≠ some b ∧ b ≠ h := fun b hb => by
      constructor
      · intro e
        have := unhide FSL b ⟨.row, by rw [unhide OE]; exact e⟩
        omega
      · omega
    have kk : ∀ b j u, W4.cell? ⟨b, j, none⟩ = some u → w.heap.size ≤ b → ∀ z, (w6.setCell ⟨h, 2, none⟩ z).cell? ⟨b, j, none⟩ = some u := fun b j u hu hb z => by
      rw [World.cell?_setCell_other _ _ _ _ (fun e => (far b hb).2 (congrArg Addr.block e).symm)]
      exact (f6.cell (a := ⟨b, j, none⟩) (World.block_lt_of_cell? _ _ hu) (far b hb).1).trans hu
    have v06 := kk w2.heap.size 0 _ v0 (by omega) (.slice va (os.length + 1) vcap)
    have v16 := kk w2.heap.size 1 _ v1 (by omega) (.slice va (os.length + 1) vcap)
    have p06 := kk w.heap.size 0 _ p0 (by omega) (.slice va (os.length + 1) vcap)
    have p16 := kk w.heap.size 1 _ p1 (by omega) (.slice va (os.length + 1) vcap)
    have pff : ∀ j, W4.frozen? ⟨w.heap.size, j, none⟩ = false → ∀ z, (w6.setCell ⟨h, 2, none⟩ z).frozen? ⟨w.heap.size, j, none⟩ = false := fun j hj z => by
      rw [World.frozen?_setCell, f6.frozen (a := ⟨w.heap.size, j, none⟩) hwl (far w.heap.size (Nat.le_refl _)).1]
      exact hj
    have pf06 := pff 0 pf0 (.slice va (os.length + 1) vcap)
    have pf16 := pff 1 pf1 (.slice va (os.length + 1) vcap)
    have hs6 := f6.size
    have hl6 : h < w6.heap.size := by omega
    have hw6 : w.heap.size < (w6.setCell ⟨h, 2, none⟩ (.slice va (os.length + 1) vcap)).heap.size := by simp [World.setCell]; omega
    have hv6 : w2.heap.size < (w6.setCell ⟨h, 2, none⟩ (.slice va (os.length + 1) vcap)).heap.size := by simp [World.setCell]; omega
    have A := hide (And.intro A1 (And.intro A2 A3))
    have HWL := hide hwl
    have HML : Hid (∀ k, o.mine k → k < w.heap.size) := (unhide HOK).lt
    clear A1 A2 A3 hr6 hg6 hat6 f6 far kk pff v0 v1 p0 p1 pf0 pf1 pc2 hs6 hw2 hz4
    go_wp2_with fail
    obtain ⟨z0, z1, zf⟩ := put2 p06 p16 (.int .i64 6) (.int .i64 (os.length : Int))
    have ZF := hide zf
    clear zf p06 p16 v06 v16 pf06 pf16
    generalize ((w6.setCell ⟨h, 2, none⟩ (.slice va (os.length + 1) vcap)).setCell ⟨w.heap.size, 0, none⟩ (.int .i64 6)).setCell ⟨w.heap.size, 1, none⟩ (.int .i64 (os.length : Int)) = W8 at *
    refine bodyPost_ret (v := .tuple #[.agg #[.int .i64 6, .int .i64 (os.length : Int)], .bool true]) (by simp [results, Try.results31, go_sem, z0, z1]) rfl ?_
    exact ⟨rfl, Laid.of (unhide FSL) (unhide HML) (unhide F4) (unhide A).1 (unhide A).2.1 (unhide A).2.2 (unhide HWL) (unhide ZF)⟩
  · go_simp
    refine hK.out _ _ (unhide HSA) (fun _ => ?_)
    clear hK K
    refine wpAnyH_ready (rs := [1]) (by kernel_rfl) (by simp) ?_
    refine AllReadyH.cons (o := _) rfl (fun K hK => ?_) AllReadyH.nil
    go_simp
    go_invoke
    go_simp
    refine (kind6_any _ _).mono ?_
    rintro e3 w3 ⟨rfl, rfl⟩
    go_simp
    refine hK.out _ _ (unhide HSA) (fun _ => ?_)
    clear hK K
    refine wpAnyH_take (i := 7) (oi := _) (v := .agg #[.int .i64 6, .int .i64 (os.length : Int)]) rfl (by kernel_rfl) (by kernel_rfl) (by kernel_rfl) (fun _ _ _ h => h) (Or.inl ⟨by rfl, (by intro w hSw; go_simp)⟩) (by assumption) ?_
    go_simp
    refine wpAnyH_ready (rs := [9]) (by kernel_rfl) (by simp) ?_
    refine AllReadyH.cons (o := _) rfl (fun K hK => ?_) AllReadyH.nil
    go_simp
    refine hK.out _ _ (unhide HS4) (fun _ => ?_)
    clear hK K
    refine wpAnyH_done (by kernel_rfl) ?_ _
    clear hHeld c2 q0 q1 hS
    generalize (w2.alloc (.cells #[.int .i64 6, .int .i64 (os.length : Int)] 33)).drew = W4 at *
    obtain ⟨v0, v1, p0, p1, pf0, pf1, hB4, hz4⟩ := unhide H4
    have hw2 := unhide HW2
    have pc2 := (unhide HS4).1
    have hl4 : h < W4.heap.size := (unhide HS4).2
    have hwl : w.heap.size < W4.heap.size := by omega
    have hw2l : w2.heap.size < W4.heap.size := by omega
    have HN : Hid (Hp W4 h bud (sp + o.price) ov os) := (unhide HH2).below hB4
    have F4 : Hid (Fr (Fts h ov os) w W4) := (unhide FF).trans (Fr.of_below hB4)
    have HO4 : Hid (o.ok W4) := (unhide HOK).keep (unhide F4) (unhide HNE)
    have HRo : Hid (Ro W4 1 (.slice oa os.length ocap) os.length (os.map OD.face)) := by have := (unhide HN).row; rw [unhide OE] at this; exact this
    have HZ4 := hide hz4
    clear hB4 hw2 hz4
    go_wp2_with (first | (at_builtin; refine wpList_appO rfl _ _ rfl (.slice oa os.length ocap) os.length (os.map OD.face) rfl ((unhide HRo).keep (fun g hg => Below.heap_alloc _ _ _ ((unhide HRo).lt g hg))) ⟨W4.heap.size, 0, none⟩ 1 83 (.pointer (some ⟨o.b, 0, none⟩)) rfl (one_new _ _ _) hL ?_))
    intro v' w6 hr6 hg6 hat6
    obtain ⟨va, vcap, rfl, _⟩ := hr6.shape
    obtain ⟨k0, kf, A1, A2, A3⟩ := (unhide HN).more (unhide HO4) (unhide HNE) (unhide HO1) ((Below.refl _ _).alloc (Nat.le_refl _) _) (by rw [unhide OE]; exact hg6) (by rw [unhide EF]; exact hr6) (by rw [unhide OE]; simpa using hat6)
    rw [unhide OE] at k0
    have f6 : Fr (fun k => (Value.slice oa os.length ocap).ownBlock = some k) W4 w6 := ((Fr.refl _ W4).alloc _).grown hg6 (fun k e => .inr e)
    have hw2 := unhide HW2
    have hz4 := unhide HZ4
    have far : ∀ b, w.heap.size ≤ b → (Value.slice oa os.length ocap).ownBlock ≠ some b ∧ b ≠ h := fun b hb => by
      constructor
      · intro e
        have := unhide FSL b ⟨.row, by rw [unhide OE]; exact e⟩
        omega
      · omega
    have kk : ∀ b j u, W4.cell? ⟨b, j, none⟩ = some u → w.heap.size ≤ b → ∀ z, (w6.setCell ⟨h, 2, none⟩ z).cell? ⟨b, j, none⟩ = some u := fun b j u hu hb z => by
      rw [World.cell?_setCell_other _ _ _ _ (fun e => (far b hb).2 (congrArg Addr.block e).symm)]
      exact (f6.cell (a := ⟨b, j, none⟩) (World.block_lt_of_cell? _ _ hu) (far b hb).1).trans hu
    have v06 := kk w2.heap.size 0 _ v0 (by omega) (.slice va (os.length + 1) vcap)
    have v16 := kk w2.heap.size 1 _ v1 (by omega) (.slice va (os.length + 1) vcap)
    have p06 := kk w.heap.size 0 _ p0 (by omega) (.slice va (os.length + 1) vcap)
    have p16 := kk w.heap.size 1 _ p1 (by omega) (.slice va (os.length + 1) vcap)
    have pff : ∀ j, W4.frozen? ⟨w.heap.size, j, none⟩ = false → ∀ z, (w6.setCell ⟨h, 2, none⟩ z).frozen? ⟨w.heap.size, j, none⟩ = false := fun j hj z => by
      rw [World.frozen?_setCell, f6.frozen (a := ⟨w.heap.size, j, none⟩) hwl (far w.heap.size (Nat.le_refl _)).1]
      exact hj
    have pf06 := pff 0 pf0 (.slice va (os.length + 1) vcap)
    have pf16 := pff 1 pf1 (.slice va (os.length + 1) vcap)
    have hs6 := f6.size
    have hl6 : h < w6.heap.size := by omega
    have hw6 : w.heap.size < (w6.setCell ⟨h, 2, none⟩ (.slice va (os.length + 1) vcap)).heap.size := by simp [World.setCell]; omega
    have hv6 : w2.heap.size < (w6.setCell ⟨h, 2, none⟩ (.slice va (os.length + 1) vcap)).heap.size := by simp [World.setCell]; omega
    have A := hide (And.intro A1 (And.intro A2 A3))
    have HWL := hide hwl
    have HML : Hid (∀ k, o.mine k → k < w.heap.size) := (unhide HOK).lt
    clear A1 A2 A3 hr6 hg6 hat6 f6 far kk pff v0 v1 p0 p1 pf0 pf1 pc2 hs6 hw2 hz4
    go_wp2_with fail
    obtain ⟨z0, z1, zf⟩ := put2 p06 p16 (.int .i64 6) (.int .i64 (os.length : Int))
    have ZF := hide zf
    clear zf p06 p16 v06 v16 pf06 pf16
    generalize ((w6.setCell ⟨h, 2, none⟩ (.slice va (os.length + 1) vcap)).setCell ⟨w.heap.size, 0, none⟩ (.int .i64 6)).setCell ⟨w.heap.size, 1, none⟩ (.int .i64 (os.length : Int)) = W8 at *
    refine bodyPost_ret (v := .tuple #[.agg #[.int .i64 6, .int .i64 (os.length : Int)], .bool true]) (by simp [results, Try.results31, go_sem, z0, z1]) rfl ?_
    exact ⟨rfl, Laid.of (unhide FSL) (unhide HML) (unhide F4) (unhide A).1 (unhide A).2.1 (unhide A).2.2 (unhide HWL) (unhide ZF)⟩
set_option maxRecDepth 100000 in
set_option maxHeartbeats 3200000 in
theorem lay7_no {w : World} {h : Nat} {bud sp : Int} {ov : Value} {os : List OD} (H : Hp w h bud sp ov os) (hb : 0 ≤ bud ∧ bud < 9223372036854775808) (hs : 0 ≤ sp ∧ sp < 9223372036854775808) {o : OD} (hok : o.ok w) (hk : o.k = 7) (hpr : o.price < 9223372036854775808 ∧ -9223372036854775808 ≤ o.price) (hr : o.price < 0 ∨ bud - sp < o.price) :
    Calls Try.prog 31 #[.pointer (some ⟨h, 0, none⟩), .iface 86 (.pointer (some ⟨o.b, 0, none⟩))] w fun e w' => e = .returned (.tuple #[.agg #[.int .i64 0, .int .i64 0], .bool false]) ∧ Below w.heap.size w w' := by
  have hB : Below w.heap.size w (w.alloc (.cells #[.int .i64 0, .int .i64 0] 33)) := (Below.refl _ _).alloc (Nat.le_refl _) _
  have H0 := H.below hB
  have hok0 : o.ok (w.alloc (.cells #[.int .i64 0, .int .i64 0] 33)) := hok.keep (Fr.of_below (S := fun _ => False) hB) (fun _ _ e => e)
  have ef : o.face = .iface 86 (.pointer (some ⟨o.b, 0, none⟩)) := by unfold OD.face; rw [hk]; rfl
  have HPR := hide (price7_any hok0 hk hpr)
  obtain ⟨r0, r1⟩ := two_new w (.int .i64 0) (.int .i64 0) 33
  have rf : ∀ j, (w.alloc (.cells #[.int .i64 0, .int .i64 0] 33)).frozen? ⟨w.heap.size, j, none⟩ = false := fun j => by
    have := heap_alloc_new w (.cells #[.int .i64 0, .int .i64 0] 33)
    unfold World.frozen?
    simp only
    rw [this]
    simp
  have hl := H.hlt
  have hz0 : (w.alloc (.cells #[.int .i64 0, .int .i64 0] 33)).heap.size = w.heap.size + 1 := by simp
  have HSP := hide (spend_no H0 hb hs o.price hr)
  have HB := hide hB
  clear H H0 hok hok0 ef hB hr hpr hk
  go_enter Try.func31, Try.ntmps31
  go_wp2_with fail
  refine (unhide HPR).mono ?_
  rintro e1 w1 ⟨rfl, rfl⟩
  go_wp2_with fail
  refine (unhide HSP).mono ?_
  rintro e2 w2 ⟨rfl, nk, rfl⟩
  have q0 : ((w.alloc (.cells #[.int .i64 0, .int .i64 0] 33)).drewN nk).cell? ⟨w.heap.size, 0, none⟩ = some (.int .i64 0) := r0
  have q1 : ((w.alloc (.cells #[.int .i64 0, .int .i64 0] 33)).drewN nk).cell? ⟨w.heap.size, 1, none⟩ = some (.int .i64 0) := r1
  have qf0 : ((w.alloc (.cells #[.int .i64 0, .int .i64 0] 33)).drewN nk).frozen? ⟨w.heap.size, 0, none⟩ = false := rf 0
  have qf1 : ((w.alloc (.cells #[.int .i64 0, .int .i64 0] 33)).drewN nk).frozen? ⟨w.heap.size, 1, none⟩ = false := rf 1
  have hzW : ((w.alloc (.cells #[.int .i64 0, .int .i64 0] 33)).drewN nk).heap.size = w.heap.size + 1 := hz0
  have HBW : Hid (Below w.heap.size w ((w.alloc (.cells #[.int .i64 0, .int .i64 0] 33)).drewN nk)) := (unhide HB).trans ((Fr.drewN (S := fun _ => False) nk).below (by simp) (fun _ _ e => e))
  clear r0 r1 rf hz0
  generalize (w.alloc (.cells #[.int .i64 0, .int .i64 0] 33)).drewN nk = W at *
  have hwl : w.heap.size < W.heap.size := by omega
  obtain ⟨z0, z1, zf⟩ := put2 q0 q1 (.int .i64 0) (.int .i64 0)
  have ZF := hide zf
  clear zf
  go_wp2_with fail
  generalize (W.setCell ⟨w.heap.size, 0, none⟩ (.int .i64 0)).setCell ⟨w.heap.size, 1, none⟩ (.int .i64 0) = W' at *
  refine bodyPost_ret (v := .tuple #[.agg #[.int .i64 0, .int .i64 0], .bool false]) (by simp [results, Try.results31, go_sem, z0, z1]) rfl ?_
  exact ⟨rfl, (unhide HBW).trans ((unhide ZF).below (unhide HBW).size (fun k hk e => by omega))⟩
set_option maxRecDepth 100000 in
set_option maxHeartbeats 3200000 in
theorem lay7_ok {w : World} {h : Nat} {bud sp : Int} {ov : Value} {os : List OD} (H : Hp w h bud sp ov os) (hb : 0 ≤ bud ∧ bud < 9223372036854775808) (hs : 0 ≤ sp ∧ sp < 9223372036854775808) {o : OD} (hok : o.ok w) (hk : o.k = 7) (hpr : o.price < 9223372036854775808 ∧ -9223372036854775808 ≤ o.price) (hr0 : 0 ≤ o.price) (hr : o.price ≤ bud - sp)
    (hne : ∀ k, o.mine k → ¬ Fts h ov os k) (ho1 : o.iv.ownBlock ≠ some o.b ∧ o.kv.ownBlock ≠ some o.b ∧ ∀ k, o.iv.ownBlock = some k → o.kv.ownBlock ≠ some k) (hL : os.length ≤ 4000000000000) :
    Calls Try.prog 31 #[.pointer (some ⟨h, 0, none⟩), .iface 86 (.pointer (some ⟨o.b, 0, none⟩))] w fun e w' => e = .returned (.tuple #[.agg #[.int .i64 7, .int .i64 (os.length : Int)], .bool true]) ∧ Laid w h bud ov os o w' (sp + o.price) := by
  have hB : Below w.heap.size w (w.alloc (.cells #[.int .i64 0, .int .i64 0] 33)) := (Below.refl _ _).alloc (Nat.le_refl _) _
  have H0 := H.below hB
  have hok0 : o.ok (w.alloc (.cells #[.int .i64 0, .int .i64 0] 33)) := hok.keep (Fr.of_below (S := fun _ => False) hB) (fun _ _ e => e)
  have ef : o.face = .iface 86 (.pointer (some ⟨o.b, 0, none⟩)) := by unfold OD.face; rw [hk]; rfl
  have HPR := hide (price7_any hok0 hk hpr)
  obtain ⟨r0, r1⟩ := two_new w (.int .i64 0) (.int .i64 0) 33
  have rf : ∀ j, (w.alloc (.cells #[.int .i64 0, .int .i64 0] 33)).frozen? ⟨w.heap.size, j, none⟩ = false := fun j => by
    have := heap_alloc_new w (.cells #[.int .i64 0, .int .i64 0] 33)
    unfold World.frozen?
    simp only
    rw [this]
    simp
  have hl := H.hlt
  have hz0 : (w.alloc (.cells #[.int .i64 0, .int .i64 0] 33)).heap.size = w.heap.size + 1 := by simp
  have HSP := hide (spend_ok H0 hb hs o.price hr0 hr)
  have HB := hide hB
  have HH := hide H
  have HOK := hide hok
  have HNE := hide hne
  have HO1 := hide ho1
  have EF := hide ef
  clear H H0 hok hok0 ef hB hr hr0 hpr hk hne ho1
  go_enter Try.func31, Try.ntmps31
  go_wp2_with fail
  refine (unhide HPR).mono ?_
  rintro e1 w1 ⟨rfl, rfl⟩
  go_wp2_with fail
  refine (unhide HSP).mono ?_
  rintro e2 w2 ⟨rfl, H2, f2, hz2⟩
  have fsl : ∀ k, Fts h ov os k → k < w.heap.size := (unhide HH).lt
  have qb : ∀ j, w2.cell? ⟨w.heap.size, j, none⟩ = (w.alloc (.cells #[.int .i64 0, .int .i64 0] 33)).cell? ⟨w.heap.size, j, none⟩ := fun j => f2.cell (a := ⟨w.heap.size, j, none⟩) (by simp) (fun e => by have : w.heap.size < w.heap.size := fsl _ e; omega)
  have q0 := (qb 0).trans r0
  have q1 := (qb 1).trans r1
  have qf : ∀ j, w2.frozen? ⟨w.heap.size, j, none⟩ = false := fun j => (f2.frozen (a := ⟨w.heap.size, j, none⟩) (by simp) (fun e => by have : w.heap.size < w.heap.size := fsl _ e; omega)).trans (rf j)
  have hw2 : w2.heap.size = w.heap.size + 1 := by omega
  have hl2 : h < w2.heap.size := by omega
  obtain ⟨oa, ocap, oe, ocl, ocm⟩ := H2.row.shape
  have c2 := H2.c2
  rw [oe] at c2
  have FF : Hid (Fr (Fts h ov os) w w2) := ((Fr.of_below (unhide HB)).trans f2)
  have HH2 := hide H2
  have OE := hide oe
  have QF := hide qf
  have FSL := hide fsl
  clear H2 f2 hz2 qb qf r0 r1 rf oe fsl
  have hBa : Below w2.heap.size w2 (w2.alloc (.cells #[.int .i64 7, .int .i64 (os.length : Int)] 33)).drew := ((Below.refl _ _).alloc (Nat.le_refl _) _).drew
  have HS4 : Hid ((w2.alloc (.cells #[.int .i64 7, .int .i64 (os.length : Int)] 33)).drew.cell? ⟨h, 2, none⟩ = some (.slice oa os.length ocap) ∧ h < (w2.alloc (.cells #[.int .i64 7, .int .i64 (os.length : Int)] 33)).drew.heap.size) := ⟨(hBa.cell (p := ⟨h, 2, none⟩) hl2).trans c2, Nat.lt_of_lt_of_le hl2 hBa.size⟩
  have H4 : Hid ((w2.alloc (.cells #[.int .i64 7, .int .i64 (os.length : Int)] 33)).drew.cell? ⟨w2.heap.size, 0, none⟩ = some (.int .i64 7) ∧ (w2.alloc (.cells #[.int .i64 7, .int .i64 (os.length : Int)] 33)).drew.cell? ⟨w2.heap.size, 1, none⟩ = some (.int .i64 (os.length : Int)) ∧ (w2.alloc (.cells #[.int .i64 7, .int .i64 (os.length : Int)] 33)).drew.cell? ⟨w.heap.size, 0, none⟩ = some (.int .i64 0) ∧ (w2.alloc (.cells #[.int .i64 7, .int .i64 (os.length : Int)] 33)).drew.cell? ⟨w.heap.size, 1, none⟩ = some (.int .i64 0) ∧ (w2.alloc (.cells #[.int .i64 7, .int .i64 (os.length : Int)] 33)).drew.frozen? ⟨w.heap.size, 0, none⟩ = false ∧ (w2.alloc (.cells #[.int .i64 7, .int .i64 (os.length : Int)] 33)).drew.frozen? ⟨w.heap.size, 1, none⟩ = false ∧ Below w2.heap.size w2 (w2.alloc (.cells #[.int .i64 7, .int .i64 (os.length : Int)] 33)).drew ∧ (w2.alloc (.cells #[.int .i64 7, .int .i64 (os.length : Int)] 33)).drew.heap.size = w2.heap.size + 1) := by
    obtain ⟨u0, u1⟩ := two_new w2 (.int .i64 7) (.int .i64 (os.length : Int)) 33
    refine ⟨u0, u1, (hBa.cell (p := ⟨w.heap.size, 0, none⟩) (by show w.heap.size < _; omega)).trans q0, (hBa.cell (p := ⟨w.heap.size, 1, none⟩) (by show w.heap.size < _; omega)).trans q1, (World.frozen?_of_block (hBa.block _ (by show w.heap.size < _; omega))).trans (unhide QF 0), (World.frozen?_of_block (hBa.block _ (by show w.heap.size < _; omega))).trans (unhide QF 1), hBa, by show (w2.alloc _).heap.size = _; simp⟩
  have HSA : Hid ((w2.alloc (.cells #[.int .i64 0, .int .i64 0] 33)).drew.cell? ⟨h, 2, none⟩ = some (.slice oa os.length ocap) ∧ h < (w2.alloc (.cells #[.int .i64 0, .int .i64 0] 33)).drew.heap.size) := ⟨(World.cell?_of_block (a := ⟨h, 2, none⟩) (Below.heap_alloc _ _ _ hl2)).trans c2, by show h < (w2.alloc _).heap.size; simp; omega⟩
  clear hBa
  have HW2 := hide hw2
  clear hw2
  have hS : w2.cell? ⟨h, 2, none⟩ = some (.slice oa os.length ocap) ∧ h < w2.heap.size := ⟨c2, hl2⟩
  go_wp2_with fail
  refine wp_region_held_drew (S := (fun wx => wx.cell? ⟨h, 2, none⟩ = some (.slice oa os.length ocap) ∧ h < wx.heap.size)) (by kernel_rfl) hS (fun hHeld => ?_)
  refine wpAnyH_take (i := 0) (oi := _) (v := .iface 86 (.pointer (some ⟨o.b, 0, none⟩))) rfl (by kernel_rfl) (by kernel_rfl) (by kernel_rfl) (fun _ _ _ h => h) (Or.inl ⟨by rfl, (by intro w hSw; go_simp)⟩) (by assumption) ?_
  refine wpAnyH_take (i := 2) (oi := _) (v := .pointer (some ⟨h, 0, none⟩)) rfl (by kernel_rfl) (by kernel_rfl) (by kernel_rfl) (fun _ _ _ h => h) (Or.inl ⟨by rfl, (by intro w hSw; go_simp)⟩) (by assumption) ?_
  refine wpAnyH_take (i := 3) (oi := _) (v := .pointer (some ⟨h, 0, none⟩)) rfl (by kernel_rfl) (by kernel_rfl) (by kernel_rfl) (fun _ _ _ h => h) (Or.inl ⟨by rfl, (by intro w hSw; obtain ⟨hs1, hs2⟩ := hSw; go_simp)⟩) (by assumption) ?_
  go_simp
  refine wpAnyH_take (i := 4) (oi := _) (v := .pointer (some ⟨h, 2, none⟩)) rfl (by kernel_rfl) (by kernel_rfl) (by kernel_rfl) (fun _ _ _ h => h) (Or.inl ⟨by rfl, (by intro w hSw; obtain ⟨hs1, hs2⟩ := hSw; go_simp)⟩) (by assumption) ?_
  refine wpAnyH_take (i := 5) (oi := _) (v := .slice oa os.length ocap) rfl (by kernel_rfl) (by kernel_rfl) (by kernel_rfl) (fun _ _ _ h => h) (Or.inl ⟨by rfl, (by intro w hSw; obtain ⟨hs1, hs2⟩ := hSw; go_simp)⟩) (by assumption) ?_
  refine wpAnyH_take (i := 6) (oi := _) (v := .int .i64 (os.length : Int)) rfl (by kernel_rfl) (by kernel_rfl) (by kernel_rfl) (fun _ _ _ h => h) (Or.inl ⟨by rfl, (by intro w hSw; go_simp)⟩) (by assumption) ?_
  go_simp
  refine wpAnyH_ready (rs := [1, 8]) (by kernel_rfl) (by simp) ?_
  refine AllReadyH.cons (o := _) rfl (fun K hK => ?_) (AllReadyH.cons (o := _) rfl (fun K hK => ?_) AllReadyH.nil)
  · go_simp
    go_invoke
    go_simp
    refine (kind7_any _ _).mono ?_
    rintro e3 w3 ⟨rfl, rfl⟩
    go_simp
    refine hK.out _ _ hHeld (fun _ => ?_)
    clear hK K
    refine wpAnyH_take (i := 7) (oi := _) (v := .agg #[.int .i64 7, .int .i64 (os.length : Int)]) rfl (by kernel_rfl) (by kernel_rfl) (by kernel_rfl) (fun _ _ _ h => h) (Or.inl ⟨by rfl, (by intro w hSw; go_simp)⟩) (by assumption) ?_
    go_simp
    refine wpAnyH_ready (rs := [8]) (by kernel_rfl) (by simp) ?_
    refine AllReadyH.cons (o := _) rfl (fun K hK => ?_) AllReadyH.nil
    go_simp
    refine hK.out _ _ (unhide HSA) (fun _ => ?_)
    clear hK K
    refine wpAnyH_ready (rs := [9]) (by kernel_rfl) (by simp) ?_
    refine AllReadyH.cons (o := _) rfl (fun K hK => ?_) AllReadyH.nil
    go_simp
    refine hK.out _ _ (unhide HS4) (fun _ => ?_)
    clear hK K
    refine wpAnyH_done (by kernel_rfl) ?_ _
    clear hHeld c2 q0 q1 hS
    generalize (w2.alloc (.cells #[.int .i64 7, .int .i64 (os.length : Int)] 33)).drew = W4 at *
    obtain ⟨v0, v1, p0, p1, pf0, pf1, hB4, hz4⟩ := unhide H4
    have hw2 := unhide HW2
    have pc2 := (unhide HS4).1
    have hl4 : h < W4.heap.size := (unhide HS4).2
    have hwl : w.heap.size < W4.heap.size := by omega
    have hw2l : w2.heap.size < W4.heap.size := by omega
    have HN : Hid (Hp W4 h bud (sp + o.price) ov os) := (unhide HH2).below hB4
    have F4 : Hid (Fr (Fts h ov os) w W4) := (unhide FF).trans (Fr.of_below hB4)
    have HO4 : Hid (o.ok W4) := (unhide HOK).keep (unhide F4) (unhide HNE)
    have HRo : Hid (Ro W4 1 (.slice oa os.length ocap) os.length (os.map OD.face)) := by have := (unhide HN).row; rw [unhide OE] at this; exact this
    have HZ4 := hide hz4
    clear hB4 hw2 hz4
    go_wp2_with (first | (at_builtin; refine wpList_appO rfl _ _ rfl (.slice oa os.length ocap) os.length (os.map OD.face) rfl ((unhide HRo).keep (fun g hg => Below.heap_alloc _ _ _ ((unhide HRo).lt g hg))) ⟨W4.heap.size, 0, none⟩ 1 86 (.pointer (some ⟨o.b, 0, none⟩)) rfl (one_new _ _ _) hL ?_))
    intro v' w6 hr6 hg6 hat6
    obtain ⟨va, vcap, rfl, _⟩ := hr6.shape
    obtain ⟨k0, kf, A1, A2, A3⟩ := (unhide HN).more (unhide HO4) (unhide HNE) (unhide HO1) ((Below.refl _ _).alloc (Nat.le_refl _) _) (by rw [unhide OE]; exact hg6) (by rw [unhide EF]; exact hr6) (by rw [unhide OE]; simpa using hat6)
    rw [unhide OE] at k0
    have f6 : Fr (fun k => (Value.slice oa os.length ocap).ownBlock = some k) W4 w6 := ((Fr.refl _ W4).alloc _).grown hg6 (fun k e => .inr e)
    have hw2 := unhide HW2
    have hz4 := unhide HZ4
    have far : ∀ b, w.heap.size ≤ b → (Value.slice oa os.length ocap).ownBlock ≠ some b ∧ b ≠ h := fun b hb => by
      constructor
      · intro e
        have := unhide FSL b ⟨.row, by rw [unhide OE]; exact e⟩
        omega
      · omega
    have kk : ∀ b j u, W4.cell? ⟨b, j, none⟩ = some u → w.heap.size ≤ b → ∀ z, (w6.setCell ⟨h, 2, none⟩ z).cell? ⟨b, j, none⟩ = some u := fun b j u hu hb z => by
      rw [World.cell?_setCell_other _ _ _ _ (fun e => (far b hb).2 (congrArg Addr.block e).symm)]
      exact (f6.cell (a := ⟨b, j, none⟩) (World.block_lt_of_cell? _ _ hu) (far b hb).1).trans hu
    have v06 := kk w2.heap.size 0 _ v0 (by omega) (.slice va (os.length + 1) vcap)
    have v16 := kk w2.heap.size 1 _ v1 (by omega) (.slice va (os.length + 1) vcap)
    have p06 := kk w.heap.size 0 _ p0 (by omega) (.slice va (os.length + 1) vcap)
    have p16 := kk w.heap.size 1 _ p1 (by omega) (.slice va (os.length + 1) vcap)
    have pff : ∀ j, W4.frozen? ⟨w.heap.size, j, none⟩ = false → ∀ z, (w6.setCell ⟨h, 2, none⟩ z).frozen? ⟨w.heap.size, j, none⟩ = false := fun j hj z => by
      rw [World.frozen?_setCell, f6.frozen (a := ⟨w.heap.size, j, none⟩) hwl (far w.heap.size (Nat.le_refl _)).1]
      exact hj
    have pf06 := pff 0 pf0 (.slice va (os.length + 1) vcap)
    have pf16 := pff 1 pf1 (.slice va (os.length + 1) vcap)
    have hs6 := f6.size
    have hl6 : h < w6.heap.size := by omega
    have hw6 : w.heap.size < (w6.setCell ⟨h, 2, none⟩ (.slice va (os.length + 1) vcap)).heap.size := by simp [World.setCell]; omega
    have hv6 : w2.heap.size < (w6.setCell ⟨h, 2, none⟩ (.slice va (os.length + 1) vcap)).heap.size := by simp [World.setCell]; omega
    have A := hide (And.intro A1 (And.intro A2 A3))
    have HWL := hide hwl
    have HML : Hid (∀ k, o.mine k → k < w.heap.size) := (unhide HOK).lt
    clear A1 A2 A3 hr6 hg6 hat6 f6 far kk pff v0 v1 p0 p1 pf0 pf1 pc2 hs6 hw2 hz4
    go_wp2_with fail
    obtain ⟨z0, z1, zf⟩ := put2 p06 p16 (.int .i64 7) (.int .i64 (os.length : Int))
    have ZF := hide zf
    clear zf p06 p16 v06 v16 pf06 pf16
    generalize ((w6.setCell ⟨h, 2, none⟩ (.slice va (os.length + 1) vcap)).setCell ⟨w.heap.size, 0, none⟩ (.int .i64 7)).setCell ⟨w.heap.size, 1, none⟩ (.int .i64 (os.length : Int)) = W8 at *
    refine bodyPost_ret (v := .tuple #[.agg #[.int .i64 7, .int .i64 (os.length : Int)], .bool true]) (by simp [results, Try.results31, go_sem, z0, z1]) rfl ?_
    exact ⟨rfl, Laid.of (unhide FSL) (unhide HML) (unhide F4) (unhide A).1 (unhide A).2.1 (unhide A).2.2 (unhide HWL) (unhide ZF)⟩
  · go_simp
    refine hK.out _ _ (unhide HSA) (fun _ => ?_)
    clear hK K
    refine wpAnyH_ready (rs := [1]) (by kernel_rfl) (by simp) ?_
    refine AllReadyH.cons (o := _) rfl (fun K hK => ?_) AllReadyH.nil
    go_simp
    go_invoke
    go_simp
    refine (kind7_any _ _).mono ?_
    rintro e3 w3 ⟨rfl, rfl⟩
    go_simp
    refine hK.out _ _ (unhide HSA) (fun _ => ?_)
    clear hK K
    refine wpAnyH_take (i := 7) (oi := _) (v := .agg #[.int .i64 7, .int .i64 (os.length : Int)]) rfl (by kernel_rfl) (by kernel_rfl) (by kernel_rfl) (fun _ _ _ h => h) (Or.inl ⟨by rfl, (by intro w hSw; go_simp)⟩) (by assumption) ?_
    go_simp
    refine wpAnyH_ready (rs := [9]) (by kernel_rfl) (by simp) ?_
    refine AllReadyH.cons (o := _) rfl (fun K hK => ?_) AllReadyH.nil
    go_simp
    refine hK.out _ _ (unhide HS4) (fun _ => ?_)
    clear hK K
    refine wpAnyH_done (by kernel_rfl) ?_ _
    clear hHeld c2 q0 q1 hS
    generalize (w2.alloc (.cells #[.int .i64 7, .int .i64 (os.length : Int)] 33)).drew = W4 at *
    obtain ⟨v0, v1, p0, p1, pf0, pf1, hB4, hz4⟩ := unhide H4
    have hw2 := unhide HW2
    have pc2 := (unhide HS4).1
    have hl4 : h < W4.heap.size := (unhide HS4).2
    have hwl : w.heap.size < W4.heap.size := by omega
    have hw2l : w2.heap.size < W4.heap.size := by omega
    have HN : Hid (Hp W4 h bud (sp + o.price) ov os) := (unhide HH2).below hB4
    have F4 : Hid (Fr (Fts h ov os) w W4) := (unhide FF).trans (Fr.of_below hB4)
    have HO4 : Hid (o.ok W4) := (unhide HOK).keep (unhide F4) (unhide HNE)
    have HRo : Hid (Ro W4 1 (.slice oa os.length ocap) os.length (os.map OD.face)) := by have := (unhide HN).row; rw [unhide OE] at this; exact this
    have HZ4 := hide hz4
    clear hB4 hw2 hz4
    go_wp2_with (first | (at_builtin; refine wpList_appO rfl _ _ rfl (.slice oa os.length ocap) os.length (os.map OD.face) rfl ((unhide HRo).keep (fun g hg => Below.heap_alloc _ _ _ ((unhide HRo).lt g hg))) ⟨W4.heap.size, 0, none⟩ 1 86 (.pointer (some ⟨o.b, 0, none⟩)) rfl (one_new _ _ _) hL ?_))
    intro v' w6 hr6 hg6 hat6
    obtain ⟨va, vcap, rfl, _⟩ := hr6.shape
    obtain ⟨k0, kf, A1, A2, A3⟩ := (unhide HN).more (unhide HO4) (unhide HNE) (unhide HO1) ((Below.refl _ _).alloc (Nat.le_refl _) _) (by rw [unhide OE]; exact hg6) (by rw [unhide EF]; exact hr6) (by rw [unhide OE]; simpa using hat6)
    rw [unhide OE] at k0
    have f6 : Fr (fun k => (Value.slice oa os.length ocap).ownBlock = some k) W4 w6 := ((Fr.refl _ W4).alloc _).grown hg6 (fun k e => .inr e)
    have hw2 := unhide HW2
    have hz4 := unhide HZ4
    have far : ∀ b, w.heap.size ≤ b → (Value.slice oa os.length ocap).ownBlock ≠ some b ∧ b ≠ h := fun b hb => by
      constructor
      · intro e
        have := unhide FSL b ⟨.row, by rw [unhide OE]; exact e⟩
        omega
      · omega
    have kk : ∀ b j u, W4.cell? ⟨b, j, none⟩ = some u → w.heap.size ≤ b → ∀ z, (w6.setCell ⟨h, 2, none⟩ z).cell? ⟨b, j, none⟩ = some u := fun b j u hu hb z => by
      rw [World.cell?_setCell_other _ _ _ _ (fun e => (far b hb).2 (congrArg Addr.block e).symm)]
      exact (f6.cell (a := ⟨b, j, none⟩) (World.block_lt_of_cell? _ _ hu) (far b hb).1).trans hu
    have v06 := kk w2.heap.size 0 _ v0 (by omega) (.slice va (os.length + 1) vcap)
    have v16 := kk w2.heap.size 1 _ v1 (by omega) (.slice va (os.length + 1) vcap)
    have p06 := kk w.heap.size 0 _ p0 (by omega) (.slice va (os.length + 1) vcap)
    have p16 := kk w.heap.size 1 _ p1 (by omega) (.slice va (os.length + 1) vcap)
    have pff : ∀ j, W4.frozen? ⟨w.heap.size, j, none⟩ = false → ∀ z, (w6.setCell ⟨h, 2, none⟩ z).frozen? ⟨w.heap.size, j, none⟩ = false := fun j hj z => by
      rw [World.frozen?_setCell, f6.frozen (a := ⟨w.heap.size, j, none⟩) hwl (far w.heap.size (Nat.le_refl _)).1]
      exact hj
    have pf06 := pff 0 pf0 (.slice va (os.length + 1) vcap)
    have pf16 := pff 1 pf1 (.slice va (os.length + 1) vcap)
    have hs6 := f6.size
    have hl6 : h < w6.heap.size := by omega
    have hw6 : w.heap.size < (w6.setCell ⟨h, 2, none⟩ (.slice va (os.length + 1) vcap)).heap.size := by simp [World.setCell]; omega
    have hv6 : w2.heap.size < (w6.setCell ⟨h, 2, none⟩ (.slice va (os.length + 1) vcap)).heap.size := by simp [World.setCell]; omega
    have A := hide (And.intro A1 (And.intro A2 A3))
    have HWL := hide hwl
    have HML : Hid (∀ k, o.mine k → k < w.heap.size) := (unhide HOK).lt
    clear A1 A2 A3 hr6 hg6 hat6 f6 far kk pff v0 v1 p0 p1 pf0 pf1 pc2 hs6 hw2 hz4
    go_wp2_with fail
    obtain ⟨z0, z1, zf⟩ := put2 p06 p16 (.int .i64 7) (.int .i64 (os.length : Int))
    have ZF := hide zf
    clear zf p06 p16 v06 v16 pf06 pf16
    generalize ((w6.setCell ⟨h, 2, none⟩ (.slice va (os.length + 1) vcap)).setCell ⟨w.heap.size, 0, none⟩ (.int .i64 7)).setCell ⟨w.heap.size, 1, none⟩ (.int .i64 (os.length : Int)) = W8 at *
    refine bodyPost_ret (v := .tuple #[.agg #[.int .i64 7, .int .i64 (os.length : Int)], .bool true]) (by simp [results, Try.results31, go_sem, z0, z1]) rfl ?_
    exact ⟨rfl, Laid.of (unhide FSL) (unhide HML) (unhide F4) (unhide A).1 (unhide A).2.1 (unhide A).2.2 (unhide HWL) (unhide ZF)⟩
set_option maxRecDepth 100000 in
set_option maxHeartbeats 3200000 in
theorem lay8_no {w : World} {h : Nat} {bud sp : Int} {ov : Value} {os : List OD} (H : Hp w h bud sp ov os) (hb : 0 ≤ bud ∧ bud < 9223372036854775808) (hs : 0 ≤ sp ∧ sp < 9223372036854775808) {o : OD} (hok : o.ok w) (hk : o.k = 8) (hpr : o.price < 9223372036854775808 ∧ -9223372036854775808 ≤ o.price) (hr : o.price < 0 ∨ bud - sp < o.price) :
    Calls Try.prog 31 #[.pointer (some ⟨h, 0, none⟩), .iface 109 (.pointer (some ⟨o.b, 0, none⟩))] w fun e w' => e = .returned (.tuple #[.agg #[.int .i64 0, .int .i64 0], .bool false]) ∧ Below w.heap.size w w' := by
  have hB : Below w.heap.size w (w.alloc (.cells #[.int .i64 0, .int .i64 0] 33)) := (Below.refl _ _).alloc (Nat.le_refl _) _
  have H0 := H.below hB
  have hok0 : o.ok (w.alloc (.cells #[.int .i64 0, .int .i64 0] 33)) := hok.keep (Fr.of_below (S := fun _ => False) hB) (fun _ _ e => e)
  have ef : o.face = .iface 109 (.pointer (some ⟨o.b, 0, none⟩)) := by unfold OD.face; rw [hk]; rfl
  have HPR := hide (price8_any hok0 hk hpr)
  obtain ⟨r0, r1⟩ := two_new w (.int .i64 0) (.int .i64 0) 33
  have rf : ∀ j, (w.alloc (.cells #[.int .i64 0, .int .i64 0] 33)).frozen? ⟨w.heap.size, j, none⟩ = false := fun j => by
    have := heap_alloc_new w (.cells #[.int .i64 0, .int .i64 0] 33)
    unfold World.frozen?
    simp only
    rw [this]
    simp
  have hl := H.hlt
  have hz0 : (w.alloc (.cells #[.int .i64 0, .int .i64 0] 33)).heap.size = w.heap.size + 1 := by simp
  have HSP := hide (spend_no H0 hb hs o.price hr)
  have HB := hide hB
  clear H H0 hok hok0 ef hB hr hpr hk
  go_enter Try.func31, Try.ntmps31
  go_wp2_with fail
  refine (unhide HPR).mono ?_
  rintro e1 w1 ⟨rfl, rfl⟩
  go_wp2_with fail
  refine (unhide HSP).mono ?_
  rintro e2 w2 ⟨rfl, nk, rfl⟩
  have q0 : ((w.alloc (.cells #[.int .i64 0, .int .i64 0] 33)).drewN nk).cell? ⟨w.heap.size, 0, none⟩ = some (.int .i64 0) := r0
  have q1 : ((w.alloc (.cells #[.int .i64 0, .int .i64 0] 33)).drewN nk).cell? ⟨w.heap.size, 1, none⟩ = some (.int .i64 0) := r1
  have qf0 : ((w.alloc (.cells #[.int .i64 0, .int .i64 0] 33)).drewN nk).frozen? ⟨w.heap.size, 0, none⟩ = false := rf 0
  have qf1 : ((w.alloc (.cells #[.int .i64 0, .int .i64 0] 33)).drewN nk).frozen? ⟨w.heap.size, 1, none⟩ = false := rf 1
  have hzW : ((w.alloc (.cells #[.int .i64 0, .int .i64 0] 33)).drewN nk).heap.size = w.heap.size + 1 := hz0
  have HBW : Hid (Below w.heap.size w ((w.alloc (.cells #[.int .i64 0, .int .i64 0] 33)).drewN nk)) := (unhide HB).trans ((Fr.drewN (S := fun _ => False) nk).below (by simp) (fun _ _ e => e))
  clear r0 r1 rf hz0
  generalize (w.alloc (.cells #[.int .i64 0, .int .i64 0] 33)).drewN nk = W at *
  have hwl : w.heap.size < W.heap.size := by omega
  obtain ⟨z0, z1, zf⟩ := put2 q0 q1 (.int .i64 0) (.int .i64 0)
  have ZF := hide zf
  clear zf
  go_wp2_with fail
  generalize (W.setCell ⟨w.heap.size, 0, none⟩ (.int .i64 0)).setCell ⟨w.heap.size, 1, none⟩ (.int .i64 0) = W' at *
  refine bodyPost_ret (v := .tuple #[.agg #[.int .i64 0, .int .i64 0], .bool false]) (by simp [results, Try.results31, go_sem, z0, z1]) rfl ?_
  exact ⟨rfl, (unhide HBW).trans ((unhide ZF).below (unhide HBW).size (fun k hk e => by omega))⟩
set_option maxRecDepth 100000 in
set_option maxHeartbeats 3200000 in
theorem lay8_ok {w : World} {h : Nat} {bud sp : Int} {ov : Value} {os : List OD} (H : Hp w h bud sp ov os) (hb : 0 ≤ bud ∧ bud < 9223372036854775808) (hs : 0 ≤ sp ∧ sp < 9223372036854775808) {o : OD} (hok : o.ok w) (hk : o.k = 8) (hpr : o.price < 9223372036854775808 ∧ -9223372036854775808 ≤ o.price) (hr0 : 0 ≤ o.price) (hr : o.price ≤ bud - sp)
    (hne : ∀ k, o.mine k → ¬ Fts h ov os k) (ho1 : o.iv.ownBlock ≠ some o.b ∧ o.kv.ownBlock ≠ some o.b ∧ ∀ k, o.iv.ownBlock = some k → o.kv.ownBlock ≠ some k) (hL : os.length ≤ 4000000000000) :
    Calls Try.prog 31 #[.pointer (some ⟨h, 0, none⟩), .iface 109 (.pointer (some ⟨o.b, 0, none⟩))] w fun e w' => e = .returned (.tuple #[.agg #[.int .i64 8, .int .i64 (os.length : Int)], .bool true]) ∧ Laid w h bud ov os o w' (sp + o.price) := by
  have hB : Below w.heap.size w (w.alloc (.cells #[.int .i64 0, .int .i64 0] 33)) := (Below.refl _ _).alloc (Nat.le_refl _) _
  have H0 := H.below hB
  have hok0 : o.ok (w.alloc (.cells #[.int .i64 0, .int .i64 0] 33)) := hok.keep (Fr.of_below (S := fun _ => False) hB) (fun _ _ e => e)
  have ef : o.face = .iface 109 (.pointer (some ⟨o.b, 0, none⟩)) := by unfold OD.face; rw [hk]; rfl
  have HPR := hide (price8_any hok0 hk hpr)
  obtain ⟨r0, r1⟩ := two_new w (.int .i64 0) (.int .i64 0) 33
  have rf : ∀ j, (w.alloc (.cells #[.int .i64 0, .int .i64 0] 33)).frozen? ⟨w.heap.size, j, none⟩ = false := fun j => by
    have := heap_alloc_new w (.cells #[.int .i64 0, .int .i64 0] 33)
    unfold World.frozen?
    simp only
    rw [this]
    simp
  have hl := H.hlt
  have hz0 : (w.alloc (.cells #[.int .i64 0, .int .i64 0] 33)).heap.size = w.heap.size + 1 := by simp
  have HSP := hide (spend_ok H0 hb hs o.price hr0 hr)
  have HB := hide hB
  have HH := hide H
  have HOK := hide hok
  have HNE := hide hne
  have HO1 := hide ho1
  have EF := hide ef
  clear H H0 hok hok0 ef hB hr hr0 hpr hk hne ho1
  go_enter Try.func31, Try.ntmps31
  go_wp2_with fail
  refine (unhide HPR).mono ?_
  rintro e1 w1 ⟨rfl, rfl⟩
  go_wp2_with fail
  refine (unhide HSP).mono ?_
  rintro e2 w2 ⟨rfl, H2, f2, hz2⟩
  have fsl : ∀ k, Fts h ov os k → k < w.heap.size := (unhide HH).lt
  have qb : ∀ j, w2.cell? ⟨w.heap.size, j, none⟩ = (w.alloc (.cells #[.int .i64 0, .int .i64 0] 33)).cell? ⟨w.heap.size, j, none⟩ := fun j => f2.cell (a := ⟨w.heap.size, j, none⟩) (by simp) (fun e => by have : w.heap.size < w.heap.size := fsl _ e; omega)
  have q0 := (qb 0).trans r0
  have q1 := (qb 1).trans r1
  have qf : ∀ j, w2.frozen? ⟨w.heap.size, j, none⟩ = false := fun j => (f2.frozen (a := ⟨w.heap.size, j, none⟩) (by simp) (fun e => by have : w.heap.size < w.heap.size := fsl _ e; omega)).trans (rf j)
  have hw2 : w2.heap.size = w.heap.size + 1 := by omega
  have hl2 : h < w2.heap.size := by omega
  obtain ⟨oa, ocap, oe, ocl, ocm⟩ := H2.row.shape
  have c2 := H2.c2
  rw [oe] at c2
  have FF : Hid (Fr (Fts h ov os) w w2) := ((Fr.of_below (unhide HB)).trans f2)
  have HH2 := hide H2
  have OE := hide oe
  have QF := hide qf
  have FSL := hide fsl
  clear H2 f2 hz2 qb qf r0 r1 rf oe fsl
  have hBa : Below w2.heap.size w2 (w2.alloc (.cells #[.int .i64 8, .int .i64 (os.length : Int)] 33)).drew := ((Below.refl _ _).alloc (Nat.le_refl _) _).drew
  have HS4 : Hid ((w2.alloc (.cells #[.int .i64 8, .int .i64 (os.length : Int)] 33)).drew.cell? ⟨h, 2, none⟩ = some (.slice oa os.length ocap) ∧ h < (w2.alloc (.cells #[.int .i64 8, .int .i64 (os.length : Int)] 33)).drew.heap.size) := ⟨(hBa.cell (p := ⟨h, 2, none⟩) hl2).trans c2, Nat.lt_of_lt_of_le hl2 hBa.size⟩
  have H4 : Hid ((w2.alloc (.cells #[.int .i64 8, .int .i64 (os.length : Int)] 33)).drew.cell? ⟨w2.heap.size, 0, none⟩ = some (.int .i64 8) ∧ (w2.alloc (.cells #[.int .i64 8, .int .i64 (os.length : Int)] 33)).drew.cell? ⟨w2.heap.size, 1, none⟩ = some (.int .i64 (os.length : Int)) ∧ (w2.alloc (.cells #[.int .i64 8, .int .i64 (os.length : Int)] 33)).drew.cell? ⟨w.heap.size, 0, none⟩ = some (.int .i64 0) ∧ (w2.alloc (.cells #[.int .i64 8, .int .i64 (os.length : Int)] 33)).drew.cell? ⟨w.heap.size, 1, none⟩ = some (.int .i64 0) ∧ (w2.alloc (.cells #[.int .i64 8, .int .i64 (os.length : Int)] 33)).drew.frozen? ⟨w.heap.size, 0, none⟩ = false ∧ (w2.alloc (.cells #[.int .i64 8, .int .i64 (os.length : Int)] 33)).drew.frozen? ⟨w.heap.size, 1, none⟩ = false ∧ Below w2.heap.size w2 (w2.alloc (.cells #[.int .i64 8, .int .i64 (os.length : Int)] 33)).drew ∧ (w2.alloc (.cells #[.int .i64 8, .int .i64 (os.length : Int)] 33)).drew.heap.size = w2.heap.size + 1) := by
    obtain ⟨u0, u1⟩ := two_new w2 (.int .i64 8) (.int .i64 (os.length : Int)) 33
    refine ⟨u0, u1, (hBa.cell (p := ⟨w.heap.size, 0, none⟩) (by show w.heap.size < _; omega)).trans q0, (hBa.cell (p := ⟨w.heap.size, 1, none⟩) (by show w.heap.size < _; omega)).trans q1, (World.frozen?_of_block (hBa.block _ (by show w.heap.size < _; omega))).trans (unhide QF 0), (World.frozen?_of_block (hBa.block _ (by show w.heap.size < _; omega))).trans (unhide QF 1), hBa, by show (w2.alloc _).heap.size = _; simp⟩
  have HSA : Hid ((w2.alloc (.cells #[.int .i64 0, .int .i64 0] 33)).drew.cell? ⟨h, 2, none⟩ = some (.slice oa os.length ocap) ∧ h < (w2.alloc (.cells #[.int .i64 0, .int .i64 0] 33)).drew.heap.size) := ⟨(World.cell?_of_block (a := ⟨h, 2, none⟩) (Below.heap_alloc _ _ _ hl2)).trans c2, by show h < (w2.alloc _).heap.size; simp; omega⟩
  clear hBa
  have HW2 := hide hw2
  clear hw2
  have hS : w2.cell? ⟨h, 2, none⟩ = some (.slice oa os.length ocap) ∧ h < w2.heap.size := ⟨c2, hl2⟩
  go_wp2_with fail
  refine wp_region_held_drew (S := (fun wx => wx.cell? ⟨h, 2, none⟩ = some (.slice oa os.length ocap) ∧ h < wx.heap.size)) (by kernel_rfl) hS (fun hHeld => ?_)
  refine wpAnyH_take (i := 0) (oi := _) (v := .iface 109 (.pointer (some ⟨o.b, 0, none⟩))) rfl (by kernel_rfl) (by kernel_rfl) (by kernel_rfl) (fun _ _ _ h => h) (Or.inl ⟨by rfl, (by intro w hSw; go_simp)⟩) (by assumption) ?_
  refine wpAnyH_take (i := 2) (oi := _) (v := .pointer (some ⟨h, 0, none⟩)) rfl (by kernel_rfl) (by kernel_rfl) (by kernel_rfl) (fun _ _ _ h => h) (Or.inl ⟨by rfl, (by intro w hSw; go_simp)⟩) (by assumption) ?_
  refine wpAnyH_take (i := 3) (oi := _) (v := .pointer (some ⟨h, 0, none⟩)) rfl (by kernel_rfl) (by kernel_rfl) (by kernel_rfl) (fun _ _ _ h => h) (Or.inl ⟨by rfl, (by intro w hSw; obtain ⟨hs1, hs2⟩ := hSw; go_simp)⟩) (by assumption) ?_
  go_simp
  refine wpAnyH_take (i := 4) (oi := _) (v := .pointer (some ⟨h, 2, none⟩)) rfl (by kernel_rfl) (by kernel_rfl) (by kernel_rfl) (fun _ _ _ h => h) (Or.inl ⟨by rfl, (by intro w hSw; obtain ⟨hs1, hs2⟩ := hSw; go_simp)⟩) (by assumption) ?_
  refine wpAnyH_take (i := 5) (oi := _) (v := .slice oa os.length ocap) rfl (by kernel_rfl) (by kernel_rfl) (by kernel_rfl) (fun _ _ _ h => h) (Or.inl ⟨by rfl, (by intro w hSw; obtain ⟨hs1, hs2⟩ := hSw; go_simp)⟩) (by assumption) ?_
  refine wpAnyH_take (i := 6) (oi := _) (v := .int .i64 (os.length : Int)) rfl (by kernel_rfl) (by kernel_rfl) (by kernel_rfl) (fun _ _ _ h => h) (Or.inl ⟨by rfl, (by intro w hSw; go_simp)⟩) (by assumption) ?_
  go_simp
  refine wpAnyH_ready (rs := [1, 8]) (by kernel_rfl) (by simp) ?_
  refine AllReadyH.cons (o := _) rfl (fun K hK => ?_) (AllReadyH.cons (o := _) rfl (fun K hK => ?_) AllReadyH.nil)
  · go_simp
    go_invoke
    go_simp
    refine (kind8_any _ _).mono ?_
    rintro e3 w3 ⟨rfl, rfl⟩
    go_simp
    refine hK.out _ _ hHeld (fun _ => ?_)
    clear hK K
    refine wpAnyH_take (i := 7) (oi := _) (v := .agg #[.int .i64 8, .int .i64 (os.length : Int)]) rfl (by kernel_rfl) (by kernel_rfl) (by kernel_rfl) (fun _ _ _ h => h) (Or.inl ⟨by rfl, (by intro w hSw; go_simp)⟩) (by assumption) ?_
    go_simp
    refine wpAnyH_ready (rs := [8]) (by kernel_rfl) (by simp) ?_
    refine AllReadyH.cons (o := _) rfl (fun K hK => ?_) AllReadyH.nil
    go_simp
    refine hK.out _ _ (unhide HSA) (fun _ => ?_)
    clear hK K
    refine wpAnyH_ready (rs := [9]) (by kernel_rfl) (by simp) ?_
    refine AllReadyH.cons (o := _) rfl (fun K hK => ?_) AllReadyH.nil
    go_simp
    refine hK.out _ _ (unhide HS4) (fun _ => ?_)
    clear hK K
    refine wpAnyH_done (by kernel_rfl) ?_ _
    clear hHeld c2 q0 q1 hS
    generalize (w2.alloc (.cells #[.int .i64 8, .int .i64 (os.length : Int)] 33)).drew = W4 at *
    obtain ⟨v0, v1, p0, p1, pf0, pf1, hB4, hz4⟩ := unhide H4
    have hw2 := unhide HW2
    have pc2 := (unhide HS4).1
    have hl4 : h < W4.heap.size := (unhide HS4).2
    have hwl : w.heap.size < W4.heap.size := by omega
    have hw2l : w2.heap.size < W4.heap.size := by omega
    have HN : Hid (Hp W4 h bud (sp + o.price) ov os) := (unhide HH2).below hB4
    have F4 : Hid (Fr (Fts h ov os) w W4) := (unhide FF).trans (Fr.of_below hB4)
    have HO4 : Hid (o.ok W4) := (unhide HOK).keep (unhide F4) (unhide HNE)
    have HRo : Hid (Ro W4 1 (.slice oa os.length ocap) os.length (os.map OD.face)) := by have := (unhide HN).row; rw [unhide OE] at this; exact this
    have HZ4 := hide hz4
    clear hB4 hw2 hz4
    go_wp2_with (first | (at_builtin; refine wpList_appO rfl _ _ rfl (.slice oa os.length ocap) os.length (os.map OD.face) rfl ((unhide HRo).keep (fun g hg => Below.heap_alloc _ _ _ ((unhide HRo).lt g hg))) ⟨W4.heap.size, 0, none⟩ 1 109 (.pointer (some ⟨o.b, 0, none⟩)) rfl (one_new _ _ _) hL ?_))
    intro v' w6 hr6 hg6 hat6
    obtain ⟨va, vcap, rfl, _⟩ := hr6.shape
    obtain ⟨k0, kf, A1, A2, A3⟩ := (unhide HN).more (unhide HO4) (unhide HNE) (unhide HO1) ((Below.refl _ _).alloc (Nat.le_refl _) _) (by rw [unhide OE]; exact hg6) (by rw [unhide EF]; exact hr6) (by rw [unhide OE]; simpa using hat6)
    rw [unhide OE] at k0
    have f6 : Fr (fun k => (Value.slice oa os.length ocap).ownBlock = some k) W4 w6 := ((Fr.refl _ W4).alloc _).grown hg6 (fun k e => .inr e)
    have hw2 := unhide HW2
    have hz4 := unhide HZ4
    have far : ∀ b, w.heap.size ≤ b → (Value.slice oa os.length ocap).ownBlock ≠ some b ∧ b ≠ h := fun b hb => by
      constructor
      · intro e
        have := unhide FSL b ⟨.row, by rw [unhide OE]; exact e⟩
        omega
      · omega
    have kk : ∀ b j u, W4.cell? ⟨b, j, none⟩ = some u → w.heap.size ≤ b → ∀ z, (w6.setCell ⟨h, 2, none⟩ z).cell? ⟨b, j, none⟩ = some u := fun b j u hu hb z => by
      rw [World.cell?_setCell_other _ _ _ _ (fun e => (far b hb).2 (congrArg Addr.block e).symm)]
      exact (f6.cell (a := ⟨b, j, none⟩) (World.block_lt_of_cell? _ _ hu) (far b hb).1).trans hu
    have v06 := kk w2.heap.size 0 _ v0 (by omega) (.slice va (os.length + 1) vcap)
    have v16 := kk w2.heap.size 1 _ v1 (by omega) (.slice va (os.length + 1) vcap)
    have p06 := kk w.heap.size 0 _ p0 (by omega) (.slice va (os.length + 1) vcap)
    have p16 := kk w.heap.size 1 _ p1 (by omega) (.slice va (os.length + 1) vcap)
    have pff : ∀ j, W4.frozen? ⟨w.heap.size, j, none⟩ = false → ∀ z, (w6.setCell ⟨h, 2, none⟩ z).frozen? ⟨w.heap.size, j, none⟩ = false := fun j hj z => by
      rw [World.frozen?_setCell, f6.frozen (a := ⟨w.heap.size, j, none⟩) hwl (far w.heap.size (Nat.le_refl _)).1]
      exact hj
    have pf06 := pff 0 pf0 (.slice va (os.length + 1) vcap)
    have pf16 := pff 1 pf1 (.slice va (os.length + 1) vcap)
    have hs6 := f6.size
    have hl6 : h < w6.heap.size := by omega
    have hw6 : w.heap.size < (w6.setCell ⟨h, 2, none⟩ (.slice va (os.length + 1) vcap)).heap.size := by simp [World.setCell]; omega
    have hv6 : w2.heap.size < (w6.setCell ⟨h, 2, none⟩ (.slice va (os.length + 1) vcap)).heap.size := by simp [World.setCell]; omega
    have A := hide (And.intro A1 (And.intro A2 A3))
    have HWL := hide hwl
    have HML : Hid (∀ k, o.mine k → k < w.heap.size) := (unhide HOK).lt
    clear A1 A2 A3 hr6 hg6 hat6 f6 far kk pff v0 v1 p0 p1 pf0 pf1 pc2 hs6 hw2 hz4
    go_wp2_with fail
    obtain ⟨z0, z1, zf⟩ := put2 p06 p16 (.int .i64 8) (.int .i64 (os.length : Int))
    have ZF := hide zf
    clear zf p06 p16 v06 v16 pf06 pf16
    generalize ((w6.setCell ⟨h, 2, none⟩ (.slice va (os.length + 1) vcap)).setCell ⟨w.heap.size, 0, none⟩ (.int .i64 8)).setCell ⟨w.heap.size, 1, none⟩ (.int .i64 (os.length : Int)) = W8 at *
    refine bodyPost_ret (v := .tuple #[.agg #[.int .i64 8, .int .i64 (os.length : Int)], .bool true]) (by simp [results, Try.results31, go_sem, z0, z1]) rfl ?_
    exact ⟨rfl, Laid.of (unhide FSL) (unhide HML) (unhide F4) (unhide A).1 (unhide A).2.1 (unhide A).2.2 (unhide HWL) (unhide ZF)⟩
  · go_simp
    refine hK.out _ _ (unhide HSA) (fun _ => ?_)
    clear hK K
    refine wpAnyH_ready (rs := [1]) (by kernel_rfl) (by simp) ?_
    refine AllReadyH.cons (o := _) rfl (fun K hK => ?_) AllReadyH.nil
    go_simp
    go_invoke
    go_simp
    refine (kind8_any _ _).mono ?_
    rintro e3 w3 ⟨rfl, rfl⟩
    go_simp
    refine hK.out _ _ (unhide HSA) (fun _ => ?_)
    clear hK K
    refine wpAnyH_take (i := 7) (oi := _) (v := .agg #[.int .i64 8, .int .i64 (os.length : Int)]) rfl (by kernel_rfl) (by kernel_rfl) (by kernel_rfl) (fun _ _ _ h => h) (Or.inl ⟨by rfl, (by intro w hSw; go_simp)⟩) (by assumption) ?_
    go_simp
    refine wpAnyH_ready (rs := [9]) (by kernel_rfl) (by simp) ?_
    refine AllReadyH.cons (o := _) rfl (fun K hK => ?_) AllReadyH.nil
    go_simp
    refine hK.out _ _ (unhide HS4) (fun _ => ?_)
    clear hK K
    refine wpAnyH_done (by kernel_rfl) ?_ _
    clear hHeld c2 q0 q1 hS
    generalize (w2.alloc (.cells #[.int .i64 8, .int .i64 (os.length : Int)] 33)).drew = W4 at *
    obtain ⟨v0, v1, p0, p1, pf0, pf1, hB4, hz4⟩ := unhide H4
    have hw2 := unhide HW2
    have pc2 := (unhide HS4).1
    have hl4 : h < W4.heap.size := (unhide HS4).2
    have hwl : w.heap.size < W4.heap.size := by omega
    have hw2l : w2.heap.size < W4.heap.size := by omega
    have HN : Hid (Hp W4 h bud (sp + o.price) ov os) := (unhide HH2).below hB4
    have F4 : Hid (Fr (Fts h ov os) w W4) := (unhide FF).trans (Fr.of_below hB4)
    have HO4 : Hid (o.ok W4) := (unhide HOK).keep (unhide F4) (unhide HNE)
    have HRo : Hid (Ro W4 1 (.slice oa os.length ocap) os.length (os.map OD.face)) := by have := (unhide HN).row; rw [unhide OE] at this; exact this
    have HZ4 := hide hz4
    clear hB4 hw2 hz4
    go_wp2_with (first | (at_builtin; refine wpList_appO rfl _ _ rfl (.slice oa os.length ocap) os.length (os.map OD.face) rfl ((unhide HRo).keep (fun g hg => Below.heap_alloc _ _ _ ((unhide HRo).lt g hg))) ⟨W4.heap.size, 0, none⟩ 1 109 (.pointer (some ⟨o.b, 0, none⟩)) rfl (one_new _ _ _) hL ?_))
    intro v' w6 hr6 hg6 hat6
    obtain ⟨va, vcap, rfl, _⟩ := hr6.shape
    obtain ⟨k0, kf, A1, A2, A3⟩ := (unhide HN).more (unhide HO4) (unhide HNE) (unhide HO1) ((Below.refl _ _).alloc (Nat.le_refl _) _) (by rw [unhide OE]; exact hg6) (by rw [unhide EF]; exact hr6) (by rw [unhide OE]; simpa using hat6)
    rw [unhide OE] at k0
    have f6 : Fr (fun k => (Value.slice oa os.length ocap).ownBlock = some k) W4 w6 := ((Fr.refl _ W4).alloc _).grown hg6 (fun k e => .inr e)
    have hw2 := unhide HW2
    have hz4 := unhide HZ4
    have far : ∀ b, w.heap.size ≤ b → (Value.slice oa os.length ocap).ownBlock ≠ some b ∧ b ≠ h := fun b hb => by
      constructor
      · intro e
        have := unhide FSL b ⟨.row, by rw [unhide OE]; exact e⟩
        omega
      · omega
    have kk : ∀ b j u, W4.cell? ⟨b, j, none⟩ = some u → w.heap.size ≤ b → ∀ z, (w6.setCell ⟨h, 2, none⟩ z).cell? ⟨b, j, none⟩ = some u := fun b j u hu hb z => by
      rw [World.cell?_setCell_other _ _ _ _ (fun e => (far b hb).2 (congrArg Addr.block e).symm)]
      exact (f6.cell (a := ⟨b, j, none⟩) (World.block_lt_of_cell? _ _ hu) (far b hb).1).trans hu
    have v06 := kk w2.heap.size 0 _ v0 (by omega) (.slice va (os.length + 1) vcap)
    have v16 := kk w2.heap.size 1 _ v1 (by omega) (.slice va (os.length + 1) vcap)
    have p06 := kk w.heap.size 0 _ p0 (by omega) (.slice va (os.length + 1) vcap)
    have p16 := kk w.heap.size 1 _ p1 (by omega) (.slice va (os.length + 1) vcap)
    have pff : ∀ j, W4.frozen? ⟨w.heap.size, j, none⟩ = false → ∀ z, (w6.setCell ⟨h, 2, none⟩ z).frozen? ⟨w.heap.size, j, none⟩ = false := fun j hj z => by
      rw [World.frozen?_setCell, f6.frozen (a := ⟨w.heap.size, j, none⟩) hwl (far w.heap.size (Nat.le_refl _)).1]
      exact hj
    have pf06 := pff 0 pf0 (.slice va (os.length + 1) vcap)
    have pf16 := pff 1 pf1 (.slice va (os.length + 1) vcap)
    have hs6 := f6.size
    have hl6 : h < w6.heap.size := by omega
    have hw6 : w.heap.size < (w6.setCell ⟨h, 2, none⟩ (.slice va (os.length + 1) vcap)).heap.size := by simp [World.setCell]; omega
    have hv6 : w2.heap.size < (w6.setCell ⟨h, 2, none⟩ (.slice va (os.length + 1) vcap)).heap.size := by simp [World.setCell]; omega
    have A := hide (And.intro A1 (And.intro A2 A3))
    have HWL := hide hwl
    have HML : Hid (∀ k, o.mine k → k < w.heap.size) := (unhide HOK).lt
    clear A1 A2 A3 hr6 hg6 hat6 f6 far kk pff v0 v1 p0 p1 pf0 pf1 pc2 hs6 hw2 hz4
    go_wp2_with fail
    obtain ⟨z0, z1, zf⟩ := put2 p06 p16 (.int .i64 8) (.int .i64 (os.length : Int))
    have ZF := hide zf
    clear zf p06 p16 v06 v16 pf06 pf16
    generalize ((w6.setCell ⟨h, 2, none⟩ (.slice va (os.length + 1) vcap)).setCell ⟨w.heap.size, 0, none⟩ (.int .i64 8)).setCell ⟨w.heap.size, 1, none⟩ (.int .i64 (os.length : Int)) = W8 at *
    refine bodyPost_ret (v := .tuple #[.agg #[.int .i64 8, .int .i64 (os.length : Int)], .bool true]) (by simp [results, Try.results31, go_sem, z0, z1]) rfl ?_
    exact ⟨rfl, Laid.of (unhide FSL) (unhide HML) (unhide F4) (unhide A).1 (unhide A).2.1 (unhide A).2.2 (unhide HWL) (unhide ZF)⟩
set_option maxRecDepth 100000 in
set_option maxHeartbeats 3200000 in
theorem lay9_no {w : World} {h : Nat} {bud sp : Int} {ov : Value} {os : List OD} (H : Hp w h bud sp ov os) (hb : 0 ≤ bud ∧ bud < 9223372036854775808) (hs : 0 ≤ sp ∧ sp < 9223372036854775808) {o : OD} (hok : o.ok w) (hk : o.k = 9) (hpr : o.price < 9223372036854775808 ∧ -9223372036854775808 ≤ o.price) (hr : o.price < 0 ∨ bud - sp < o.price) :
    Calls Try.prog 31 #[.pointer (some ⟨h, 0, none⟩), .iface 75 (.pointer (some ⟨o.b, 0, none⟩))] w fun e w' => e = .returned (.tuple #[.agg #[.int .i64 0, .int .i64 0], .bool false]) ∧ Below w.heap.size w w' := by
  have hB : Below w.heap.size w (w.alloc (.cells #[.int .i64 0, .int .i64 0] 33)) := (Below.refl _ _).alloc (Nat.le_refl _) _
  have H0 := H.below hB
  have hok0 : o.ok (w.alloc (.cells #[.int .i64 0, .int .i64 0] 33)) := hok.keep (Fr.of_below (S := fun _ => False) hB) (fun _ _ e => e)
  have ef : o.face = .iface 75 (.pointer (some ⟨o.b, 0, none⟩)) := by unfold OD.face; rw [hk]; rfl
  have HPR := hide (price9_any hok0 hk hpr)
  obtain ⟨r0, r1⟩ := two_new w (.int .i64 0) (.int .i64 0) 33
  have rf : ∀ j, (w.alloc (.cells #[.int .i64 0, .int .i64 0] 33)).frozen? ⟨w.heap.size, j, none⟩ = false := fun j => by
    have := heap_alloc_new w (.cells #[.int .i64 0, .int .i64 0] 33)
    unfold World.frozen?
    simp only
    rw [this]
    simp
  have hl := H.hlt
  have hz0 : (w.alloc (.cells #[.int .i64 0, .int .i64 0] 33)).heap.size = w.heap.size + 1 := by simp
  have HSP := hide (spend_no H0 hb hs o.price hr)
  have HB := hide hB
  clear H H0 hok hok0 ef hB hr hpr hk
  go_enter Try.func31, Try.ntmps31
  go_wp2_with fail
  refine (unhide HPR).mono ?_
  rintro e1 w1 ⟨rfl, rfl⟩
  go_wp2_with fail
  refine (unhide HSP).mono ?_
  rintro e2 w2 ⟨rfl, nk, rfl⟩
  have q0 : ((w.alloc (.cells #[.int .i64 0, .int .i64 0] 33)).drewN nk).cell? ⟨w.heap.size, 0, none⟩ = some (.int .i64 0) := r0
  have q1 : ((w.alloc (.cells #[.int .i64 0, .int .i64 0] 33)).drewN nk).cell? ⟨w.heap.size, 1, none⟩ = some (.int .i64 0) := r1
  have qf0 : ((w.alloc (.cells #[.int .i64 0, .int .i64 0] 33)).drewN nk).frozen? ⟨w.heap.size, 0, none⟩ = false := rf 0
  have qf1 : ((w.alloc (.cells #[.int .i64 0, .int .i64 0] 33)).drewN nk).frozen? ⟨w.heap.size, 1, none⟩ = false := rf 1
  have hzW : ((w.alloc (.cells #[.int .i64 0, .int .i64 0] 33)).drewN nk).heap.size = w.heap.size + 1 := hz0
  have HBW : Hid (Below w.heap.size w ((w.alloc (.cells #[.int .i64 0, .int .i64 0] 33)).drewN nk)) := (unhide HB).trans ((Fr.drewN (S := fun _ => False) nk).below (by simp) (fun _ _ e => e))
  clear r0 r1 rf hz0
  generalize (w.alloc (.cells #[.int .i64 0, .int .i64 0] 33)).drewN nk = W at *
  have hwl : w.heap.size < W.heap.size := by omega
  obtain ⟨z0, z1, zf⟩ := put2 q0 q1 (.int .i64 0) (.int .i64 0)
  have ZF := hide zf
  clear zf
  go_wp2_with fail
  generalize (W.setCell ⟨w.heap.size, 0, none⟩ (.int .i64 0)).setCell ⟨w.heap.size, 1, none⟩ (.int .i64 0) = W' at *
  refine bodyPost_ret (v := .tuple #[.agg #[.int .i64 0, .int .i64 0], .bool false]) (by simp [results, Try.results31, go_sem, z0, z1]) rfl ?_
  exact ⟨rfl, (unhide HBW).trans ((unhide ZF).below (unhide HBW).size (fun k hk e => by omega))⟩
set_option maxRecDepth 100000 in
set_option maxHeartbeats 3200000 in
theorem lay9_ok {w : World} {h : Nat} {bud sp : Int} {ov : Value} {os : List OD} (H : Hp w h bud sp ov os) (hb : 0 ≤ bud ∧ bud < 9223372036854775808) (hs : 0 ≤ sp ∧ sp < 9223372036854775808) {o : OD} (hok : o.ok w) (hk : o.k = 9) (hpr : o.price < 9223372036854775808 ∧ -9223372036854775808 ≤ o.price) (hr0 : 0 ≤ o.price) (hr : o.price ≤ bud - sp)
    (hne : ∀ k, o.mine k → ¬ Fts h ov os k) (ho1 : o.iv.ownBlock ≠ some o.b ∧ o.kv.ownBlock ≠ some o.b ∧ ∀ k, o.iv.ownBlock = some k → o.kv.ownBlock ≠ some k) (hL : os.length ≤ 4000000000000) :
    Calls Try.prog 31 #[.pointer (some ⟨h, 0, none⟩), .iface 75 (.pointer (some ⟨o.b, 0, none⟩))] w fun e w' => e = .returned (.tuple #[.agg #[.int .i64 9, .int .i64 (os.length : Int)], .bool true]) ∧ Laid w h bud ov os o w' (sp + o.price) := by
  have hB : Below w.heap.size w (w.alloc (.cells #[.int .i64 0, .int .i64 0] 33)) := (Below.refl _ _).alloc (Nat.le_refl _) _
  have H0 := H.below hB
  have hok0 : o.ok (w.alloc (.cells #[.int .i64 0, .int .i64 0] 33)) := hok.keep (Fr.of_below (S := fun _ => False) hB) (fun _ _ e => e)
  have ef : o.face = .iface 75 (.pointer (some ⟨o.b, 0, none⟩)) := by unfold OD.face; rw [hk]; rfl
  have HPR := hide (price9_any hok0 hk hpr)
  obtain ⟨r0, r1⟩ := two_new w (.int .i64 0) (.int .i64 0) 33
  have rf : ∀ j, (w.alloc (.cells #[.int .i64 0, .int .i64 0] 33)).frozen? ⟨w.heap.size, j, none⟩ = false := fun j => by
    have := heap_alloc_new w (.cells #[.int .i64 0, .int .i64 0] 33)
    unfold World.frozen?
    simp only
    rw [this]
    simp
  have hl := H.hlt
  have hz0 : (w.alloc (.cells #[.int .i64 0, .int .i64 0] 33)).heap.size = w.heap.size + 1 := by simp
  have HSP := hide (spend_ok H0 hb hs o.price hr0 hr)
  have HB := hide hB
  have HH := hide H
  have HOK := hide hok
  have HNE := hide hne
  have HO1 := hide ho1
  have EF := hide ef
  clear H H0 hok hok0 ef hB hr hr0 hpr hk hne ho1
  go_enter Try.func31, Try.ntmps31
  go_wp2_with fail
  refine (unhide HPR).mono ?_
  rintro e1 w1 ⟨rfl, rfl⟩
  go_wp2_with fail
  refine (unhide HSP).mono ?_
  rintro e2 w2 ⟨rfl, H2, f2, hz2⟩
  have fsl : ∀ k, Fts h ov os k → k < w.heap.size := (unhide HH).lt
  have qb : ∀ j, w2.cell? ⟨w.heap.size, j, none⟩ = (w.alloc (.cells #[.int .i64 0, .int .i64 0] 33)).cell? ⟨w.heap.size, j, none⟩ := fun j => f2.cell (a := ⟨w.heap.size, j, none⟩) (by simp) (fun e => by have : w.heap.size < w.heap.size := fsl _ e; omega)
  have q0 := (qb 0).trans r0
  have q1 := (qb 1).trans r1
  have qf : ∀ j, w2.frozen? ⟨w.heap.size, j, none⟩ = false := fun j => (f2.frozen (a := ⟨w.heap.size, j, none⟩) (by simp) (fun e => by have : w.heap.size < w.heap.size := fsl _ e; omega)).trans (rf j)
  have hw2 : w2.heap.size = w.heap.size + 1 := by omega
  have hl2 : h < w2.heap.size := by omega
  obtain ⟨oa, ocap, oe, ocl, ocm⟩ := H2.row.shape
  have c2 := H2.c2
  rw [oe] at c2
  have FF : Hid (Fr (Fts h ov os) w w2) := ((Fr.of_below (unhide HB)).trans f2)
  have HH2 := hide H2
  have OE := hide oe
  have QF := hide qf
  have FSL := hide fsl
  clear H2 f2 hz2 qb qf r0 r1 rf oe fsl
  have hBa : Below w2.heap.size w2 (w2.alloc (.cells #[.int .i64 9, .int .i64 (os.length : Int)] 33)).drew := ((Below.refl _ _).alloc (Nat.le_refl _) _).drew
  have HS4 : Hid ((w2.alloc (.cells #[.int .i64 9, .int .i64 (os.length : Int)] 33)).drew.cell? ⟨h, 2, none⟩ = some (.slice oa os.length ocap) ∧ h < (w2.alloc (.cells #[.int .i64 9, .int .i64 (os.length : Int)] 33)).drew.heap.size) := ⟨(hBa.cell (p := ⟨h, 2, none⟩) hl2).trans c2, Nat.lt_of_lt_of_le hl2 hBa.size⟩
  have H4 : Hid ((w2.alloc (.cells #[.int .i64 9, .int .i64 (os.length : Int)] 33)).drew.cell? ⟨w2.heap.size, 0, none⟩ = some (.int .i64 9) ∧ (w2.alloc (.cells #[.int .i64 9, .int .i64 (os.length : Int)] 33)).drew.cell? ⟨w2.heap.size, 1, none⟩ = some (.int .i64 (os.length : Int)) ∧ (w2.alloc (.cells #[.int .i64 9, .int .i64 (os.length : Int)] 33)).drew.cell? ⟨w.heap.size, 0, none⟩ = some (.int .i64 0) ∧ (w2.alloc (.cells #[.int .i64 9, .int .i64 (os.length : Int)] 33)).drew.cell? ⟨w.heap.size, 1, none⟩ = some (.int .i64 0) ∧ (w2.alloc (.cells #[.int .i64 9, .int .i64 (os.length : Int)] 33)).drew.frozen? ⟨w.heap.size, 0, none⟩ = false ∧ (w2.alloc (.cells #[.int .i64 9, .int .i64 (os.length : Int)] 33)).drew.frozen? ⟨w.heap.size, 1, none⟩ = false ∧ Below w2.heap.size w2 (w2.alloc (.cells #[.int .i64 9, .int .i64 (os.length : Int)] 33)).drew ∧ (w2.alloc (.cells #[.int .i64 9, .int .i64 (os.length : Int)] 33)).drew.heap.size = w2.heap.size + 1) := by
    obtain ⟨u0, u1⟩ := two_new w2 (.int .i64 9) (.int .i64 (os.length : Int)) 33
    refine ⟨u0, u1, (hBa.cell (p := ⟨w.heap.size, 0, none⟩) (by show w.heap.size < _; omega)).trans q0, (hBa.cell (p := ⟨w.heap.size, 1, none⟩) (by show w.heap.size < _; omega)).trans q1, (World.frozen?_of_block (hBa.block _ (by show w.heap.size < _; omega))).trans (unhide QF 0), (World.frozen?_of_block (hBa.block _ (by show w.heap.size < _; omega))).trans (unhide QF 1), hBa, by show (w2.alloc _).heap.size = _; simp⟩
  have HSA : Hid ((w2.alloc (.cells #[.int .i64 0, .int .i64 0] 33)).drew.cell? ⟨h, 2, none⟩ = some (.slice oa os.length ocap) ∧ h < (w2.alloc (.cells #[.int .i64 0, .int .i64 0] 33)).drew.heap.size) := ⟨(World.cell?_of_block (a := ⟨h, 2, none⟩) (Below.heap_alloc _ _ _ hl2)).trans c2, by show h < (w2.alloc _).heap.size; simp; omega⟩
  clear hBa
  have HW2 := hide hw2
  clear hw2
  have hS : w2.cell? ⟨h, 2, none⟩ = some (.slice oa os.length ocap) ∧ h < w2.heap.size := ⟨c2, hl2⟩
  go_wp2_with fail
  refine wp_region_held_drew (S := (fun wx => wx.cell? ⟨h, 2, none⟩ = some (.slice oa os.length ocap) ∧ h < wx.heap.size)) (by kernel_rfl) hS (fun hHeld => ?_)
  refine wpAnyH_take (i := 0) (oi := _) (v := .iface 75 (.pointer (some ⟨o.b, 0, none⟩))) rfl (by kernel_rfl) (by kernel_rfl) (by kernel_rfl) (fun _ _ _ h => h) (Or.inl ⟨by rfl, (by intro w hSw; go_simp)⟩) (by assumption) ?_
  refine wpAnyH_take (i := 2) (oi := _) (v := .pointer (some ⟨h, 0, none⟩)) rfl (by kernel_rfl) (by kernel_rfl) (by kernel_rfl) (fun _ _ _ h => h) (Or.inl ⟨by rfl, (by intro w hSw; go_simp)⟩) (by assumption) ?_
  refine wpAnyH_take (i := 3) (oi := _) (v := .pointer (some ⟨h, 0, none⟩)) rfl (by kernel_rfl) (by kernel_rfl) (by kernel_rfl) (fun _ _ _ h => h) (Or.inl ⟨by rfl, (by intro w hSw; obtain ⟨hs1, hs2⟩ := hSw; go_simp)⟩) (by assumption) ?_
  go_simp
  refine wpAnyH_take (i := 4) (oi := _) (v := .pointer (some ⟨h, 2, none⟩)) rfl (by kernel_rfl) (by kernel_rfl) (by kernel_rfl) (fun _ _ _ h => h) (Or.inl ⟨by rfl, (by intro w hSw; obtain ⟨hs1, hs2⟩ := hSw; go_simp)⟩) (by assumption) ?_
  refine wpAnyH_take (i := 5) (oi := _) (v := .slice oa os.length ocap) rfl (by kernel_rfl) (by kernel_rfl) (by kernel_rfl) (fun _ _ _ h => h) (Or.inl ⟨by rfl, (by intro w hSw; obtain ⟨hs1, hs2⟩ := hSw; go_simp)⟩) (by assumption) ?_
  refine wpAnyH_take (i := 6) (oi := _) (v := .int .i64 (os.length : Int)) rfl (by kernel_rfl) (by kernel_rfl) (by kernel_rfl) (fun _ _ _ h => h) (Or.inl ⟨by rfl, (by intro w hSw; go_simp)⟩) (by assumption) ?_
  go_simp
  refine wpAnyH_ready (rs := [1, 8]) (by kernel_rfl) (by simp) ?_
  refine AllReadyH.cons (o := _) rfl (fun K hK => ?_) (AllReadyH.cons (o := _) rfl (fun K hK => ?_) AllReadyH.nil)
  · go_simp
    go_invoke
    go_simp
    refine (kind9_any _ _).mono ?_
    rintro e3 w3 ⟨rfl, rfl⟩
    go_simp
    refine hK.out _ _ hHeld (fun _ => ?_)
    clear hK K
    refine wpAnyH_take (i := 7) (oi := _) (v := .agg #[.int .i64 9, .int .i64 (os.length : Int)]) rfl (by kernel_rfl) (by kernel_rfl) (by kernel_rfl) (fun _ _ _ h => h) (Or.inl ⟨by rfl, (by intro w hSw; go_simp)⟩) (by assumption) ?_
    go_simp
    refine wpAnyH_ready (rs := [8]) (by kernel_rfl) (by simp) ?_
    refine AllReadyH.cons (o := _) rfl (fun K hK => ?_) AllReadyH.nil
    go_simp
    refine hK.out _ _ (unhide HSA) (fun _ => ?_)
    clear hK K
    refine wpAnyH_ready (rs := [9]) (by kernel_rfl) (by simp) ?_
    refine AllReadyH.cons (o := _) rfl (fun K hK => ?_) AllReadyH.nil
    go_simp
    refine hK.out _ _ (unhide HS4) (fun _ => ?_)
    clear hK K
    refine wpAnyH_done (by kernel_rfl) ?_ _
    clear hHeld c2 q0 q1 hS
    generalize (w2.alloc (.cells #[.int .i64 9, .int .i64 (os.length : Int)] 33)).drew = W4 at *
    obtain ⟨v0, v1, p0, p1, pf0, pf1, hB4, hz4⟩ := unhide H4
    have hw2 := unhide HW2
    have pc2 := (unhide HS4).1
    have hl4 : h < W4.heap.size := (unhide HS4).2
    have hwl : w.heap.size < W4.heap.size := by omega
    have hw2l : w2.heap.size < W4.heap.size := by omega
    have HN : Hid (Hp W4 h bud (sp + o.price) ov os) := (unhide HH2).below hB4
    have F4 : Hid (Fr (Fts h ov os) w W4) := (unhide FF).trans (Fr.of_below hB4)
    have HO4 : Hid (o.ok W4) := (unhide HOK).keep (unhide F4) (unhide HNE)
    have HRo : Hid (Ro W4 1 (.slice oa os.length ocap) os.length (os.map OD.face)) := by have := (unhide HN).row; rw [unhide OE] at this; exact this
    have HZ4 := hide hz4
    clear hB4 hw2 hz4
    go_wp2_with (first | (at_builtin; refine wpList_appO rfl _ _ rfl (.slice oa os.length ocap) os.length (os.map OD.face) rfl ((unhide HRo).keep (fun g hg => Below.heap_alloc _ _ _ ((unhide HRo).lt g hg))) ⟨W4.heap.size, 0, none⟩ 1 75 (.pointer (some ⟨o.b, 0, none⟩)) rfl (one_new _ _ _) hL ?_))
    intro v' w6 hr6 hg6 hat6
    obtain ⟨va, vcap, rfl, _⟩ := hr6.shape
    obtain ⟨k0, kf, A1, A2, A3⟩ := (unhide HN).more (unhide HO4) (unhide HNE) (unhide HO1) ((Below.refl _ _).alloc (Nat.le_refl _) _) (by rw [unhide OE]; exact hg6) (by rw [unhide EF]; exact hr6) (by rw [unhide OE]; simpa using hat6)
    rw [unhide OE] at k0
    have f6 : Fr (fun k => (Value.slice oa os.length ocap).ownBlock = some k) W4 w6 := ((Fr.refl _ W4).alloc _).grown hg6 (fun k e => .inr e)
    have hw2 := unhide HW2
    have hz4 := unhide HZ4
    have far : ∀ b, w.heap.size ≤ b → (Value.slice oa os.length ocap).ownBlock ≠ some b ∧ b ≠ h := fun b hb => by
      constructor
      · intro e
        have := unhide FSL b ⟨.row, by rw [unhide OE]; exact e⟩
        omega
      · omega
    have kk : ∀ b j u, W4.cell? ⟨b, j, none⟩ = some u → w.heap.size ≤ b → ∀ z, (w6.setCell ⟨h, 2, none⟩ z).cell? ⟨b, j, none⟩ = some u := fun b j u hu hb z => by
      rw [World.cell?_setCell_other _ _ _ _ (fun e => (far b hb).2 (congrArg Addr.block e).symm)]
      exact (f6.cell (a := ⟨b, j, none⟩) (World.block_lt_of_cell? _ _ hu) (far b hb).1).trans hu
    have v06 := kk w2.heap.size 0 _ v0 (by omega) (.slice va (os.length + 1) vcap)
    have v16 := kk w2.heap.size 1 _ v1 (by omega) (.slice va (os.length + 1) vcap)
    have p06 := kk w.heap.size 0 _ p0 (by omega) (.slice va (os.length + 1) vcap)
    have p16 := kk w.heap.size 1 _ p1 (by omega) (.slice va (os.length + 1) vcap)
    have pff : ∀ j, W4.frozen? ⟨w.heap.size, j, none⟩ = false → ∀ z, (w6.setCell ⟨h, 2, none⟩ z).frozen? ⟨w.heap.size, j, none⟩ = false := fun j hj z => by
      rw [World.frozen?_setCell, f6.frozen (a := ⟨w.heap.size, j, none⟩) hwl (far w.heap.size (Nat.le_refl _)).1]
      exact hj
    have pf06 := pff 0 pf0 (.slice va (os.length + 1) vcap)
    have pf16 := pff 1 pf1 (.slice va (os.length + 1) vcap)
    have hs6 := f6.size
    have hl6 : h < w6.heap.size := by omega
    have hw6 : w.heap.size < (w6.setCell ⟨h, 2, none⟩ (.slice va (os.length + 1) vcap)).heap.size := by simp [World.setCell]; omega
    have hv6 : w2.heap.size < (w6.setCell ⟨h, 2, none⟩ (.slice va (os.length + 1) vcap)).heap.size := by simp [World.setCell]; omega
    have A := hide (And.intro A1 (And.intro A2 A3))
    have HWL := hide hwl
    have HML : Hid (∀ k, o.mine k → k < w.heap.size) := (unhide HOK).lt
    clear A1 A2 A3 hr6 hg6 hat6 f6 far kk pff v0 v1 p0 p1 pf0 pf1 pc2 hs6 hw2 hz4
    go_wp2_with fail
    obtain ⟨z0, z1, zf⟩ := put2 p06 p16 (.int .i64 9) (.int .i64 (os.length : Int))
    have ZF := hide zf
    clear zf p06 p16 v06 v16 pf06 pf16
    generalize ((w6.setCell ⟨h, 2, none⟩ (.slice va (os.length + 1) vcap)).setCell ⟨w.heap.size, 0, none⟩ (.int .i64 9)).setCell ⟨w.heap.size, 1, none⟩ (.int .i64 (os.length : Int)) = W8 at *
    refine bodyPost_ret (v := .tuple #[.agg #[.int .i64 9, .int .i64 (os.length : Int)], .bool true]) (by simp [results, Try.results31, go_sem, z0, z1]) rfl ?_
    exact ⟨rfl, Laid.of (unhide FSL) (unhide HML) (unhide F4) (unhide A).1 (unhide A).2.1 (unhide A).2.2 (unhide HWL) (unhide ZF)⟩
  · go_simp
    refine hK.out _ _ (unhide HSA) (fun _ => ?_)
    clear hK K
    refine wpAnyH_ready (rs := [1]) (by kernel_rfl) (by simp) ?_
    refine AllReadyH.cons (o := _) rfl (fun K hK => ?_) AllReadyH.nil
    go_simp
    go_invoke
    go_simp
    refine (kind9_any _ _).mono ?_
    rintro e3 w3 ⟨rfl, rfl⟩
    go_simp
    refine hK.out _ _ (unhide HSA) (fun _ => ?_)
    clear hK K
    refine wpAnyH_take (i := 7) (oi := _) (v := .agg #[.int .i64 9, .int .i64 (os.length : Int)]) rfl (by kernel_rfl) (by kernel_rfl) (by kernel_rfl) (fun _ _ _ h => h) (Or.inl ⟨by rfl, (by intro w hSw; go_simp)⟩) (by assumption) ?_
    go_simp
    refine wpAnyH_ready (rs := [9]) (by kernel_rfl) (by simp) ?_
    refine AllReadyH.cons (o := _) rfl (fun K hK => ?_) AllReadyH.nil
    go_simp
    refine hK.out _ _ (unhide HS4) (fun _ => ?_)
    clear hK K
    refine wpAnyH_done (by kernel_rfl) ?_ _
    clear hHeld c2 q0 q1 hS
    generalize (w2.alloc (.cells #[.int .i64 9, .int .i64 (os.length : Int)] 33)).drew = W4 at *
    obtain ⟨v0, v1, p0, p1, pf0, pf1, hB4, hz4⟩ := unhide H4
    have hw2 := unhide HW2
    have pc2 := (unhide HS4).1
    have hl4 : h < W4.heap.size := (unhide HS4).2
    have hwl : w.heap.size < W4.heap.size := by omega
    have hw2l : w2.heap.size < W4.heap.size := by omega
    have HN : Hid (Hp W4 h bud (sp + o.price) ov os) := (unhide HH2).below hB4
    have F4 : Hid (Fr (Fts h ov os) w W4) := (unhide FF).trans (Fr.of_below hB4)
    have HO4 : Hid (o.ok W4) := (unhide HOK).keep (unhide F4) (unhide HNE)
    have HRo : Hid (Ro W4 1 (.slice oa os.length ocap) os.length (os.map OD.face)) := by have := (unhide HN).row; rw [unhide OE] at this; exact this
    have HZ4 := hide hz4
    clear hB4 hw2 hz4
    go_wp2_with (first | (at_builtin; refine wpList_appO rfl _ _ rfl (.slice oa os.length ocap) os.length (os.map OD.face) rfl ((unhide HRo).keep (fun g hg => Below.heap_alloc _ _ _ ((unhide HRo).lt g hg))) ⟨W4.heap.size, 0, none⟩ 1 75 (.pointer (some ⟨o.b, 0, none⟩)) rfl (one_new _ _ _) hL ?_))
    intro v' w6 hr6 hg6 hat6
    obtain ⟨va, vcap, rfl, _⟩ := hr6.shape
    obtain ⟨k0, kf, A1, A2, A3⟩ := (unhide HN).more (unhide HO4) (unhide HNE) (unhide HO1) ((Below.refl _ _).alloc (Nat.le_refl _) _) (by rw [unhide OE]; exact hg6) (by rw [unhide EF]; exact hr6) (by rw [unhide OE]; simpa using hat6)
    rw [unhide OE] at k0
    have f6 : Fr (fun k => (Value.slice oa os.length ocap).ownBlock = some k) W4 w6 := ((Fr.refl _ W4).alloc _).grown hg6 (fun k e => .inr e)
    have hw2 := unhide HW2
    have hz4 := unhide HZ4
    have far : ∀ b, w.heap.size ≤ b → (Value.slice oa os.length ocap).ownBlock ≠ some b ∧ b ≠ h := fun b hb => by
      constructor
      · intro e
        have := unhide FSL b ⟨.row, by rw [unhide OE]; exact e⟩
        omega
      · omega
    have kk : ∀ b j u, W4.cell? ⟨b, j, none⟩ = some u → w.heap.size ≤ b → ∀ z, (w6.setCell ⟨h, 2, none⟩ z).cell? ⟨b, j, none⟩ = some u := fun b j u hu hb z => by
      rw [World.cell?_setCell_other _ _ _ _ (fun e => (far b hb).2 (congrArg Addr.block e).symm)]
      exact (f6.cell (a := ⟨b, j, none⟩) (World.block_lt_of_cell? _ _ hu) (far b hb).1).trans hu
    have v06 := kk w2.heap.size 0 _ v0 (by omega) (.slice va (os.length + 1) vcap)
    have v16 := kk w2.heap.size 1 _ v1 (by omega) (.slice va (os.length + 1) vcap)
    have p06 := kk w.heap.size 0 _ p0 (by omega) (.slice va (os.length + 1) vcap)
    have p16 := kk w.heap.size 1 _ p1 (by omega) (.slice va (os.length + 1) vcap)
    have pff : ∀ j, W4.frozen? ⟨w.heap.size, j, none⟩ = false → ∀ z, (w6.setCell ⟨h, 2, none⟩ z).frozen? ⟨w.heap.size, j, none⟩ = false := fun j hj z => by
      rw [World.frozen?_setCell, f6.frozen (a := ⟨w.heap.size, j, none⟩) hwl (far w.heap.size (Nat.le_refl _)).1]
      exact hj
    have pf06 := pff 0 pf0 (.slice va (os.length + 1) vcap)
    have pf16 := pff 1 pf1 (.slice va (os.length + 1) vcap)
    have hs6 := f6.size
    have hl6 : h < w6.heap.size := by omega
    have hw6 : w.heap.size < (w6.setCell ⟨h, 2, none⟩ (.slice va (os.length + 1) vcap)).heap.size := by simp [World.setCell]; omega
    have hv6 : w2.heap.size < (w6.setCell ⟨h, 2, none⟩ (.slice va (os.length + 1) vcap)).heap.size := by simp [World.setCell]; omega
    have A := hide (And.intro A1 (And.intro A2 A3))
    have HWL := hide hwl
    have HML : Hid (∀ k, o.mine k → k < w.heap.size) := (unhide HOK).lt
    clear A1 A2 A3 hr6 hg6 hat6 f6 far kk pff v0 v1 p0 p1 pf0 pf1 pc2 hs6 hw2 hz4
    go_wp2_with fail
    obtain ⟨z0, z1, zf⟩ := put2 p06 p16 (.int .i64 9) (.int .i64 (os.length : Int))
    have ZF := hide zf
    clear zf p06 p16 v06 v16 pf06 pf16
    generalize ((w6.setCell ⟨h, 2, none⟩ (.slice va (os.length + 1) vcap)).setCell ⟨w.heap.size, 0, none⟩ (.int .i64 9)).setCell ⟨w.heap.size, 1, none⟩ (.int .i64 (os.length : Int)) = W8 at *
    refine bodyPost_ret (v := .tuple #[.agg #[.int .i64 9, .int .i64 (os.length : Int)], .bool true]) (by simp [results, Try.results31, go_sem, z0, z1]) rfl ?_
    exact ⟨rfl, Laid.of (unhide FSL) (unhide HML) (unhide F4) (unhide A).1 (unhide A).2.1 (unhide A).2.2 (unhide HWL) (unhide ZF)⟩
end Go.Proofs.Ytkpngfahnpidkaa
