/-
  HeapFields: a record, and the lists beside it.
-/
import Derived.Test.YtkpngfahnpidkaaRAre
import Derived.Test.YtkpngfahnpidkaaFState
namespace Go.Proofs.Ytkpngfahnpidkaa
open Go.RowKit
set_option linter.unusedVariables false
set_option linter.unusedSimpArgs false

structure FQ (w : World) (hb cb : Nat) (bud sp : Int) (ks : List Int) (vs : List (Int × Int)) (kv vv ov : Value) (o : OD) (wr : World) : Prop where
  hp : Hp wr hb bud sp ov [o]
  ok : o.k = 7
  ok1 : o.keys = ks
  ok2 : o.its = vs
  nd : ks.Nodup
  len : vs.length = ks.length
  many : ks.length ≤ 256
  kr : Ro wr 1 kv ks.length (kcells ks)
  vr : Ro wr 2 vv vs.length (flat vs)
  cbx : Bx wr cb 7 0
  cB : w.heap.size ≤ cb
  far : ∀ k, Fts hb ov [o] k → w.heap.size ≤ k ∧ k ≠ cb ∧ kv.ownBlock ≠ some k ∧ vv.ownBlock ≠ some k
  kfar : ∀ k, kv.ownBlock = some k → w.heap.size ≤ k ∧ k ≠ cb ∧ vv.ownBlock ≠ some k
  vfar : ∀ k, vv.ownBlock = some k → w.heap.size ≤ k ∧ k ≠ cb
  bel : Below w.heap.size w wr
  rng : 0 ≤ sp ∧ sp ≤ bud
section
variable {w : World} {hb cb : Nat} {bud sp : Int} {ks : List Int} {vs : List (Int × Int)} {kv vv ov : Value} {o : OD} {wr w' : World}
theorem FQ.nm (J : FQ w hb cb bud sp ks vs kv vv ov o wr) : nm [o] 7 0 = some o := by
  unfold Ytkpngfahnpidkaa.nm
  rw [if_pos (by omega)]
  simp [Option.filter, J.ok]
theorem FQ.below (J : FQ w hb cb bud sp ks vs kv vv ov o wr) (f : Below wr.heap.size wr w') : FQ w hb cb bud sp ks vs kv vv ov o w' :=
  have fr : Fr (fun _ => False) wr w' := Fr.of_below f
  ⟨J.hp.below f, J.ok, J.ok1, J.ok2, J.nd, J.len, J.many, J.kr.fr fr (fun _ _ e => e), J.vr.fr fr (fun _ _ e => e), J.cbx.fr fr (fun e => e), J.cB, J.far, J.kfar, J.vfar, J.bel.trans (f.mono J.bel.size), J.rng⟩
/-- Between: the record is ahead of the lists. -/
structure FM (w : World) (hb cb : Nat) (bud sp : Int) (ks1 ks2 : List Int) (vs1 vs2 : List (Int × Int)) (kv vv ov : Value) (o : OD) (wr : World) : Prop where
  hp : Hp wr hb bud sp ov [o]
  ok : o.k = 7
  ok1 : o.keys = ks1
  ok2 : o.its = vs1
  kr : Ro wr 1 kv ks2.length (kcells ks2)
  vr : Ro wr 2 vv vs2.length (flat vs2)
  cbx : Bx wr cb 7 0
  cB : w.heap.size ≤ cb
  far : ∀ k, Fts hb ov [o] k → w.heap.size ≤ k ∧ k ≠ cb ∧ kv.ownBlock ≠ some k ∧ vv.ownBlock ≠ some k
  kfar : ∀ k, kv.ownBlock = some k → w.heap.size ≤ k ∧ k ≠ cb ∧ vv.ownBlock ≠ some k
  vfar : ∀ k, vv.ownBlock = some k → w.heap.size ≤ k ∧ k ≠ cb
  bel : Below w.heap.size w wr
variable {ks1 ks2 : List Int} {vs1 vs2 : List (Int × Int)}
theorem FQ.mid (J : FQ w hb cb bud sp ks vs kv vv ov o wr) : FM w hb cb bud sp ks ks vs vs kv vv ov o wr := ⟨J.hp, J.ok, J.ok1, J.ok2, J.kr, J.vr, J.cbx, J.cB, J.far, J.kfar, J.vfar, J.bel⟩
theorem FM.full (J : FM w hb cb bud sp ks ks vs vs kv vv ov o wr) (nd : ks.Nodup) (len : vs.length = ks.length) (many : ks.length ≤ 256) (rng : 0 ≤ sp ∧ sp ≤ bud) : FQ w hb cb bud sp ks vs kv vv ov o wr :=
  ⟨J.hp, J.ok, J.ok1, J.ok2, nd, len, many, J.kr, J.vr, J.cbx, J.cB, J.far, J.kfar, J.vfar, J.bel, rng⟩
theorem FM.below (J : FM w hb cb bud sp ks1 ks2 vs1 vs2 kv vv ov o wr) (f : Below wr.heap.size wr w') : FM w hb cb bud sp ks1 ks2 vs1 vs2 kv vv ov o w' :=
  have fr : Fr (fun _ => False) wr w' := Fr.of_below f
  ⟨J.hp.below f, J.ok, J.ok1, J.ok2, J.kr.fr fr (fun _ _ e => e), J.vr.fr fr (fun _ _ e => e), J.cbx.fr fr (fun e => e), J.cB, J.far, J.kfar, J.vfar, J.bel.trans (f.mono J.bel.size)⟩
theorem FM.now (J : FM w hb cb bud sp ks1 ks2 vs1 vs2 kv vv ov o wr) {o' : OD} {sp' : Int} {ks1' : List Int} {vs1' : List (Int × Int)} (N : Now wr hb bud sp ov [o] w' sp' [o']) (h1 : o'.k = 7) (h2 : o'.keys = ks1') (h3 : o'.its = vs1') :
    ∃ ov', FM w hb cb bud sp' ks1' ks2 vs1' vs2 kv vv ov' o' w' := by
  obtain ⟨ov', H, f, hF⟩ := N
  have hsz := J.bel.size
  have cl := J.cbx.lt
  refine ⟨ov', H, h1, h2, h3, J.kr.fr f (fun k hk e => (J.far k e).2.2.1 hk), J.vr.fr f (fun k hk e => (J.far k e).2.2.2 hk), J.cbx.fr f (fun e => (J.far cb e).2.1 rfl), J.cB, fun k hk => ?_, J.kfar, J.vfar, J.bel.trans (f.below hsz (fun k hk e => by have := (J.far k e).1; omega))⟩
  rcases hF k hk with q | q
  · exact J.far k q
  · exact ⟨by omega, by omega, fun e => by have := J.kr.lt k e; omega, fun e => by have := J.vr.lt k e; omega⟩
theorem FM.keys (J : FM w hb cb bud sp ks1 ks2 vs1 vs2 kv vv ov o wr) {ks2' : List Int} {kv' : Value} (f : Fr (fun k => kv.ownBlock = some k) wr w') (hr : Ro w' 1 kv' ks2'.length (kcells ks2')) (hv : kv'.ownBlock = kv.ownBlock ∨ ∀ k, kv'.ownBlock = some k → wr.heap.size ≤ k) :
    FM w hb cb bud sp ks1 ks2' vs1 vs2 kv' vv ov o w' := by
  have hsz := J.bel.size
  have cl := J.cbx.lt
  refine ⟨J.hp.keep f (fun k hk => (J.far k hk).2.2.1), J.ok, J.ok1, J.ok2, hr, J.vr.fr f (fun k hk e => (J.kfar k e).2.2 hk), J.cbx.fr f (fun e => (J.kfar cb e).2.1 rfl), J.cB, fun k hk => ⟨(J.far k hk).1, (J.far k hk).2.1, fun e => ?_, (J.far k hk).2.2.2⟩, fun k hk => ?_, J.vfar, J.bel.trans (f.below hsz (fun k hk e => by have := (J.kfar k e).1; omega))⟩
  · rcases hv with q | q
    · exact (J.far k hk).2.2.1 (q ▸ e)
    · have h1 := q k e
      have h2 := J.hp.lt k hk
      omega
  · rcases hv with q | q
    · exact J.kfar k (q ▸ hk)
    · have := q k hk
      exact ⟨by omega, by omega, fun e => by have := J.vr.lt k e; omega⟩
theorem FM.vals (J : FM w hb cb bud sp ks1 ks2 vs1 vs2 kv vv ov o wr) {vs2' : List (Int × Int)} {vv' : Value} (f : Fr (fun k => vv.ownBlock = some k) wr w') (hr : Ro w' 2 vv' vs2'.length (flat vs2')) (hv : vv'.ownBlock = vv.ownBlock ∨ ∀ k, vv'.ownBlock = some k → wr.heap.size ≤ k) :
    FM w hb cb bud sp ks1 ks2 vs1 vs2' kv vv' ov o w' := by
  have hsz := J.bel.size
  have cl := J.cbx.lt
  refine ⟨J.hp.keep f (fun k hk => (J.far k hk).2.2.2), J.ok, J.ok1, J.ok2, J.kr.fr f (fun k hk e => (J.kfar k hk).2.2 e), hr, J.cbx.fr f (fun e => (J.vfar cb e).2 rfl), J.cB, fun k hk => ⟨(J.far k hk).1, (J.far k hk).2.1, (J.far k hk).2.2.1, fun e => ?_⟩, fun k hk => ⟨(J.kfar k hk).1, (J.kfar k hk).2.1, fun e => ?_⟩, fun k hk => ?_, J.bel.trans (f.below hsz (fun k hk e => by have := (J.vfar k e).1; omega))⟩
  · rcases hv with q | q
    · exact (J.far k hk).2.2.2 (q ▸ e)
    · have h1 := q k e
      have h2 := J.hp.lt k hk
      omega
  · rcases hv with q | q
    · exact (J.kfar k hk).2.2 (q ▸ e)
    · have h1 := q k e
      have h2 := J.kr.lt k hk
      omega
  · rcases hv with q | q
    · exact J.vfar k (q ▸ hk)
    · have := q k hk
      exact ⟨by omega, by omega⟩
end
/-- With less room. -/
theorem Ro.less {w : World} {sz g off n cap : Nat} {xs : List Value} (h : Ro w sz (.slice (some ⟨g, off, none⟩) n cap) n xs) {c : Nat} (h1 : n ≤ c) (h2 : c ≤ cap) : Ro w sz (.slice (some ⟨g, off, none⟩) n c) n xs := by
  obtain ⟨hl, hh⟩ := h
  refine ⟨hl, ?_⟩
  rcases hh with ⟨e, _⟩ | ⟨g', off', cap', cur, t, e, hb, h3, h4, h5, h6⟩
  · cases e
  · cases e
    have := Nat.mul_le_mul_right sz h2
    exact .inr ⟨g, off, c, cur, t, rfl, hb, h1, by omega, by omega, h6⟩
/-- append(s[:j:j], s[j+1:]...): a row without one place, never over the old one. -/
theorem Ro.out {P : Program} {w : World} {sz g off m cap j : Nat} {xs : List Value} (t ty e : TypeId) (inf : TypeInfo) (z : Value) (bytes : Nat) (ht : P.underlying t = some (.slice e)) (hif : P.info? e = some inf) (hz : inf.zero = some z) (hsize : inf.size = sz) (hby : inf.bytes = bytes) (hzs : z.cells.size = sz) (hsz : 0 < sz)
    (h : Ro w sz (.slice (some ⟨g, off, none⟩) (m + 1) cap) (m + 1) xs) (hj : j ≤ m) (h1 : ∀ u ∈ xs, u.oneCell' = true) (a : Addr) (ha : a = ⟨g, off + (j + 1) * sz, none⟩ ∨ m = j) (c : Nat) (h63 : m ≤ maxLen) (hb : m * bytes ≤ 140737488355328) :
    ∃ v' w', (Builtin.append_ #[t, t] ty #[.slice (some ⟨g, off, none⟩) j j, .slice (some a) (m - j) c]).run P w = .ok v' w' ∧ Ro w' sz v' m (wo sz j xs) ∧ w.grownBy w' (some g) ∧ (v'.ownBlock = some g ∨ v'.ownBlock = some w.heap.size) := by
  have hc : m + 1 ≤ cap := by
    obtain ⟨a, c, e, h2, _⟩ := h.shape
    cases e
    exact h2
  have hd := (h.upto rfl (k := j) (by omega)).less (c := j) (Nat.le_refl _) (by omega)
  by_cases h0 : m = j
  · subst h0
    have hrun := run_append_room_cells (P := P) w t ty e inf ht hif g off m m a 0 c [] (by simp) (fun j u hu => by simp at hu) (by simp) (by omega) (fun j hj => by simp at hj) (fun j hj => by simp at hj)
    simp only [World.setCells, Nat.add_zero] at hrun
    refine ⟨_, w, by rw [Nat.sub_self]; exact hrun, ?_, ⟨rfl, rfl, rfl, Nat.le_refl _, fun _ _ _ => rfl⟩, .inl rfl⟩
    have e2 : wo sz m xs = xs.take (m * sz) := by
      unfold wo
      rw [List.drop_eq_nil_of_le (by rw [h.1]; exact Nat.le_refl _), List.append_nil]
    rw [e2]
    exact hd
  · have ha' : a = ⟨g, off + (j + 1) * sz, none⟩ := by
      rcases ha with q | q
      · exact q
      · exact absurd q h0
    obtain ⟨g', off', cap', e2, q1, q2, q3, q4⟩ := h.full (by omega)
    cases e2
    have e1 : (m - j) * sz = m * sz - j * sz := Nat.sub_mul _ _ _
    have e3 : (j + 1) * sz = j * sz + sz := Nat.succ_mul _ _
    have e4 : (m + 1) * sz = m * sz + sz := Nat.succ_mul _ _
    have hjm : j * sz ≤ m * sz := Nat.mul_le_mul_right _ hj
    obtain ⟨v', w', r1, r2, r3, r4⟩ := hd.app (P := P) t ty e inf z sz bytes ht hif hz hsize hby hzs hsz a (m - j) c (xs.drop ((j + 1) * sz)) (by rw [List.length_drop, h.1]; omega) (fun i u hu => by
      rw [ha', Go.WideShapes.add_plain]
      rw [List.getElem?_drop] at hu
      have hi : (j + 1) * sz + i < xs.length := (List.getElem?_eq_some_iff.1 hu).1
      rw [h.1] at hi
      rw [Nat.add_assoc, q4 _ hi]
      exact hu) (fun u hu => h1 u (List.mem_of_mem_drop hu)) (by omega) (by omega) (by rw [show j + (m - j) = m by omega]; exact hb)
    rw [show j + (m - j) = m by omega] at r2
    exact ⟨v', w', r1, r2, r3, r4⟩
end Go.Proofs.Ytkpngfahnpidkaa
