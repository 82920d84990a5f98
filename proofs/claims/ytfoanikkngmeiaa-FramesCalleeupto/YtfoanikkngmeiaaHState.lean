/-
  A heap in memory.
-/
import Derived.Test.YtfoanikkngmeiaaRBase
namespace Go.Proofs.Ytfoanikkngmeiaa.hp
open Go.RowKit
set_option linter.unusedVariables false

/-- Values, as their cells. -/
def flat (l : List (Int × Int)) : List Value := l.flatMap (fun p => [.int .i64 p.1, .int .i64 p.2])
theorem flat_length (l : List (Int × Int)) : (flat l).length = l.length * 2 := by
  induction l with
  | nil => rfl
  | cons p r ih => simp only [flat, List.flatMap_cons, List.length_append, List.length_cons, List.length_nil] at ih ⊢; omega
theorem flat_append (l m : List (Int × Int)) : flat (l ++ m) = flat l ++ flat m := List.flatMap_append
theorem flat_one (p : Int × Int) : flat [p] = [.int .i64 p.1, .int .i64 p.2] := rfl
theorem flat_drop (l : List (Int × Int)) (k : Nat) : (flat l).drop (k * 2) = flat (l.drop k) := by
  induction l generalizing k with
  | nil => simp [flat]
  | cons p r ih =>
    cases k with
    | zero => rfl
    | succ k =>
      have := ih k
      rw [show (k + 1) * 2 = k * 2 + 2 by omega]
      simpa [flat] using this
theorem flat_take (l : List (Int × Int)) (k : Nat) : (flat l).take (k * 2) = flat (l.take k) := by
  induction l generalizing k with
  | nil => simp [flat]
  | cons p r ih =>
    cases k with
    | zero => rfl
    | succ k =>
      have := ih k
      rw [show (k + 1) * 2 = k * 2 + 2 by omega]
      simpa [flat] using this
theorem flat_at (l : List (Int × Int)) (k : Nat) (p : Int × Int) (h : l[k]? = some p) : (flat l)[k * 2]? = some (.int .i64 p.1) ∧ (flat l)[k * 2 + 1]? = some (.int .i64 p.2) := by
  have h1 : (flat l).drop (k * 2) = flat (l.drop k) := flat_drop l k
  obtain ⟨hk, hp⟩ := List.getElem?_eq_some_iff.1 h
  have h2 : l.drop k = p :: l.drop (k + 1) := by rw [← hp]; exact List.drop_eq_getElem_cons hk
  rw [h2] at h1
  have e0 := congrArg (fun q => q[0]?) h1
  have e1 := congrArg (fun q => q[1]?) h1
  simp only [List.getElem?_drop] at e0 e1
  exact ⟨by simpa [flat] using e0, by simpa [flat] using e1⟩

/-- An object in memory. -/
structure OD where
  k : Nat
  b : Nat
  iv : Value
  kv : Value
  its : List (Int × Int)
  keys : List Int
  m : Int
  shut : Bool

/-- The type of the pointer of a kind. -/
def pty : Nat → TypeId
  | 6 => 89
  | 7 => 92
  | 8 => 96
  | _ => 99
def OD.face (o : OD) : Value := .iface (pty o.k) (.pointer (some ⟨o.b, 0, none⟩))
def OD.cells (o : OD) : List Value := match o.k with
  | 6 => [o.iv]
  | 7 => [o.kv, o.iv]
  | 8 => [.int .i64 o.m, o.iv]
  | _ => [.int .i64 o.m, o.iv, .bool o.shut]
def kcells (l : List Int) : List Value := l.map (.int .i64 ·)
/-- It lies there. -/
structure OD.ok (w : World) (o : OD) : Prop where
  kind : 6 ≤ o.k ∧ o.k ≤ 9
  cell : ∀ j u, o.cells[j]? = some u → w.cell? ⟨o.b, j, none⟩ = some u
  free : ∀ j, w.frozen? ⟨o.b, j, none⟩ = false
  items : Ro w 2 o.iv o.its.length (flat o.its)
  keys : Ro w 1 o.kv o.keys.length (kcells o.keys)
  plain : o.k ≠ 7 → o.kv = .slice none 0 0 ∧ o.keys = []
/-- Its blocks. -/
def OD.mine (o : OD) (k : Nat) : Prop := k = o.b ∨ o.iv.ownBlock = some k ∨ o.kv.ownBlock = some k

theorem OD.cells_pos (o : OD) : ∃ u, o.cells[0]? = some u := by
  unfold OD.cells
  split <;> exact ⟨_, rfl⟩
theorem OD.ok.lt {w : World} {o : OD} (h : o.ok w) : ∀ k, o.mine k → k < w.heap.size := by
  rintro k (e | e | e)
  · obtain ⟨u, hu⟩ := o.cells_pos
    rw [e]
    exact World.block_lt_of_cell? _ _ (h.cell 0 u hu)
  · exact h.items.lt k e
  · exact h.keys.lt k e
theorem OD.ok.keep {S : Nat → Prop} {w w' : World} {o : OD} (h : o.ok w) (f : Fr S w w') (hn : ∀ k, o.mine k → ¬ S k) : o.ok w' :=
  ⟨h.kind, fun j u hu => (f.cell (a := ⟨o.b, j, none⟩) (h.lt _ (.inl rfl)) (hn _ (.inl rfl))).trans (h.cell j u hu),
    fun j => (f.frozen (a := ⟨o.b, j, none⟩) (h.lt _ (.inl rfl)) (hn _ (.inl rfl))).trans (h.free j),
    h.items.fr f (fun k hk => hn k (.inr (.inl hk))), h.keys.fr f (fun k hk => hn k (.inr (.inr hk))), h.plain⟩

/-- The places of a heap's blocks. -/
abbrev Sl := Option (Option (Sum Nat (Sum Nat Nat)))
abbrev Sl.hp : Sl := none
abbrev Sl.row : Sl := some none
abbrev Sl.ob (i : Nat) : Sl := some (some (.inl i))
abbrev Sl.it (i : Nat) : Sl := some (some (.inr (.inl i)))
abbrev Sl.ky (i : Nat) : Sl := some (some (.inr (.inr i)))
def feet (h : Nat) (ov : Value) (os : List OD) : Sl → Option Nat
  | none => some h
  | some none => ov.ownBlock
  | some (some (.inl i)) => (os[i]?).map (·.b)
  | some (some (.inr (.inl i))) => (os[i]?).bind (·.iv.ownBlock)
  | some (some (.inr (.inr i))) => (os[i]?).bind (·.kv.ownBlock)
/-- A heap's own blocks. -/
def Fts (h : Nat) (ov : Value) (os : List OD) (k : Nat) : Prop := ∃ s, feet h ov os s = some k

theorem Fts.mine {h : Nat} {ov : Value} {os : List OD} {i : Nat} {o : OD} (ho : os[i]? = some o) {k : Nat} (hk : o.mine k) : Fts h ov os k := by
  rcases hk with e | e | e
  · exact ⟨.ob i, by simp [feet, ho, e]⟩
  · exact ⟨.it i, by simp [feet, ho, e]⟩
  · exact ⟨.ky i, by simp [feet, ho, e]⟩
theorem Fts.cases {h : Nat} {ov : Value} {os : List OD} {k : Nat} (hk : Fts h ov os k) : k = h ∨ ov.ownBlock = some k ∨ ∃ (i : Nat) (o : OD), os[i]? = some o ∧ o.mine k := by
  obtain ⟨s, hs⟩ := hk
  rcases s with _ | _ | i | i | i
  · simp [feet] at hs; exact .inl hs.symm
  · exact .inr (.inl hs)
  · simp only [feet, Option.map_eq_some_iff] at hs
    obtain ⟨o, h1, h2⟩ := hs
    exact .inr (.inr ⟨i, o, h1, .inl h2.symm⟩)
  · simp only [feet, Option.bind_eq_some_iff] at hs
    obtain ⟨o, h1, h2⟩ := hs
    exact .inr (.inr ⟨i, o, h1, .inr (.inl h2)⟩)
  · simp only [feet, Option.bind_eq_some_iff] at hs
    obtain ⟨o, h1, h2⟩ := hs
    exact .inr (.inr ⟨i, o, h1, .inr (.inr h2)⟩)

/-- At block h lies a heap of these objects. -/
structure Hp (w : World) (h : Nat) (bud sp : Int) (ov : Value) (os : List OD) : Prop where
  c0 : w.cell? ⟨h, 0, none⟩ = some (.int .i64 bud)
  c1 : w.cell? ⟨h, 1, none⟩ = some (.int .i64 sp)
  c2 : w.cell? ⟨h, 2, none⟩ = some ov
  free : ∀ j, w.frozen? ⟨h, j, none⟩ = false
  row : Ro w 1 ov os.length (os.map OD.face)
  ok : ∀ (i : Nat) (o : OD), os[i]? = some o → o.ok w
  ap : ∀ a b k, feet h ov os a = some k → feet h ov os b = some k → a = b

section
variable {w w' : World} {h : Nat} {bud sp : Int} {ov : Value} {os : List OD}
theorem Hp.lt (H : Hp w h bud sp ov os) : ∀ k, Fts h ov os k → k < w.heap.size := by
  intro k hk
  rcases hk.cases with e | e | ⟨i, o, ho, e⟩
  · rw [e]; exact World.block_lt_of_cell? _ _ H.c0
  · exact H.row.lt k e
  · exact (H.ok i o ho).lt k e
theorem Hp.hlt (H : Hp w h bud sp ov os) : h < w.heap.size := H.lt h ⟨.hp, rfl⟩
theorem Hp.keep {S : Nat → Prop} (H : Hp w h bud sp ov os) (f : Fr S w w') (hn : ∀ k, Fts h ov os k → ¬ S k) : Hp w' h bud sp ov os :=
  have hh := hn h ⟨.hp, rfl⟩
  ⟨(f.cell (a := ⟨h, 0, none⟩) H.hlt hh).trans H.c0, (f.cell (a := ⟨h, 1, none⟩) H.hlt hh).trans H.c1, (f.cell (a := ⟨h, 2, none⟩) H.hlt hh).trans H.c2,
    fun j => (f.frozen (a := ⟨h, j, none⟩) H.hlt hh).trans (H.free j), H.row.fr f (fun k hk => hn k ⟨.row, hk⟩), fun i o ho => (H.ok i o ho).keep f (fun k hk => hn k (Fts.mine ho hk)), H.ap⟩
theorem Hp.below (H : Hp w h bud sp ov os) (f : Below w.heap.size w w') : Hp w' h bud sp ov os := H.keep (Fr.of_below (S := fun _ => False) f) (fun _ _ e => e)
/-- A heap's objects lie apart from the rest of it. -/
theorem Hp.mine_h (H : Hp w h bud sp ov os) {i : Nat} {o : OD} (ho : os[i]? = some o) : ¬ o.mine h := by
  rintro (e | e | e)
  · have := H.ap .hp (.ob i) h rfl (by simp [feet, ho, ← e]); cases this
  · have := H.ap .hp (.it i) h rfl (by simp [feet, ho, e]); cases this
  · have := H.ap .hp (.ky i) h rfl (by simp [feet, ho, e]); cases this
theorem Hp.mine_row (H : Hp w h bud sp ov os) {i : Nat} {o : OD} (ho : os[i]? = some o) {k : Nat} (hk : ov.ownBlock = some k) : ¬ o.mine k := by
  rintro (e | e | e)
  · have := H.ap .row (.ob i) k hk (by simp [feet, ho, e]); cases this
  · have := H.ap .row (.it i) k hk (by simp [feet, ho, e]); cases this
  · have := H.ap .row (.ky i) k hk (by simp [feet, ho, e]); cases this
theorem Hp.mine_ne (H : Hp w h bud sp ov os) {i j : Nat} {o p : OD} (ho : os[i]? = some o) (hp : os[j]? = some p) (hij : i ≠ j) {k : Nat} (hk : o.mine k) : ¬ p.mine k := by
  have f : ∀ (i : Nat) (o : OD), os[i]? = some o → o.mine k → ∃ s, feet h ov os s = some k ∧ (s = .ob i ∨ s = .it i ∨ s = .ky i) := fun i o ho hk => by
    rcases hk with e | e | e
    · exact ⟨.ob i, by simp [feet, ho, e], .inl rfl⟩
    · exact ⟨.it i, by simp [feet, ho, e], .inr (.inl rfl)⟩
    · exact ⟨.ky i, by simp [feet, ho, e], .inr (.inr rfl)⟩
  intro hk2
  obtain ⟨s, h1, h2⟩ := f i o ho hk
  obtain ⟨t, h3, h4⟩ := f j p hp hk2
  have := H.ap s t k h1 h3
  subst this
  rcases h2 with rfl | rfl | rfl <;> rcases h4 with q | q | q <;> cases q <;> exact hij rfl
theorem Hp.row_h (H : Hp w h bud sp ov os) : ov.ownBlock ≠ some h := fun e => by
  have := H.ap .hp .row h rfl e; cases this
theorem Hp.one (H : Hp w h bud sp ov os) {i : Nat} {o : OD} (ho : os[i]? = some o) : o.iv.ownBlock ≠ some o.b ∧ o.kv.ownBlock ≠ some o.b ∧ ∀ k, o.iv.ownBlock = some k → o.kv.ownBlock ≠ some k := by
  refine ⟨fun e => ?_, fun e => ?_, fun k e e2 => ?_⟩
  · have := H.ap (.ob i) (.it i) o.b (by simp [feet, ho]) (by simp [feet, ho, e]); cases this
  · have := H.ap (.ob i) (.ky i) o.b (by simp [feet, ho]) (by simp [feet, ho, e]); cases this
  · have := H.ap (.it i) (.ky i) k (by simp [feet, ho, e]) (by simp [feet, ho, e2]); cases this
/-- What is spent is written anew. -/
theorem Hp.spent (H : Hp w h bud sp ov os) (sp' : Int) : Hp (w.setCell ⟨h, 1, none⟩ (.int .i64 sp')) h bud sp' ov os ∧ Fr (Fts h ov os) w (w.setCell ⟨h, 1, none⟩ (.int .i64 sp')) := by
  have ho : ∀ k, k ≠ h → (w.setCell ⟨h, 1, none⟩ (.int .i64 sp')).heap[k]? = w.heap[k]? := fun k hk => Below.heap_setCell _ _ _ _ hk
  have f : Fr (fun k => k = h) w (w.setCell ⟨h, 1, none⟩ (.int .i64 sp')) := (Fr.refl (fun k => k = h) w).setCell ⟨h, 1, none⟩ (.inr rfl) _
  refine ⟨⟨?_, World.cell?_setCell_same _ _ _ H.c1, ?_, fun j => by rw [World.frozen?_setCell]; exact H.free j, H.row.fr f (fun k hk e => H.row_h (e ▸ hk)), fun i o ho => (H.ok i o ho).keep f (fun k hk e => H.mine_h ho (e ▸ hk)), H.ap⟩, f.mono (fun k _ e => ⟨.hp, by rw [e]; rfl⟩)⟩
  · rw [World.cell?_setCell_other _ _ _ _ (by simp)]; exact H.c0
  · rw [World.cell?_setCell_other _ _ _ _ (by simp)]; exact H.c2

/-- An object turns. -/
theorem Hp.turn (H : Hp w h bud sp ov os) {i : Nat} {o o' : OD} (ho : os[i]? = some o) (f : Fr o.mine w w') (hk : o'.k = o.k) (hb : o'.b = o.b) (hok : o'.ok w')
    (hi : o'.iv.ownBlock = o.iv.ownBlock ∨ ∀ k, o'.iv.ownBlock = some k → w.heap.size ≤ k) (hq : o'.kv.ownBlock = o.kv.ownBlock ∨ ∀ k, o'.kv.ownBlock = some k → w.heap.size ≤ k)
    (hx : ∀ k, o'.iv.ownBlock = some k → o'.kv.ownBlock ≠ some k) :
    Hp w' h bud sp ov (os.set i o') ∧ Fr (Fts h ov os) w w' ∧ ∀ k, Fts h ov (os.set i o') k → Fts h ov os k ∨ w.heap.size ≤ k := by
  have hil : i < os.length := (List.getElem?_eq_some_iff.1 ho).1
  have hget : ∀ j, (os.set i o')[j]? = if j = i then some o' else os[j]? := fun j => by
    rw [List.getElem?_set]
    by_cases e : i = j
    · subst e; simp [hil]
    · have e2 : ¬ j = i := fun q => e q.symm
      simp [e, e2]
  have hmine : ∀ k, o'.mine k → o.mine k ∨ w.heap.size ≤ k := fun k hm => by
    rcases hm with e | e | e
    · exact .inl (.inl (by rw [e, hb]))
    · rcases hi with q | q
      · exact .inl (.inr (.inl (q ▸ e)))
      · exact .inr (q k e)
    · rcases hq with q | q
      · exact .inl (.inr (.inr (q ▸ e)))
      · exact .inr (q k e)
  have hface : o'.face = o.face := by unfold OD.face; rw [hk, hb]
  have hmap : (os.set i o').map OD.face = os.map OD.face := by
    rw [List.map_set, hface]
    apply List.ext_getElem?
    intro j
    rw [List.getElem?_set]
    by_cases e : i = j
    · subst e
      rw [if_pos rfl, if_pos (by simpa using hil), List.getElem?_map, ho]
      rfl
    · simp [e]
  have hFS : ∀ k, Fts h ov (os.set i o') k → Fts h ov os k ∨ w.heap.size ≤ k := fun k hkk => by
    rcases hkk.cases with e | e | ⟨j, p, hp, e⟩
    · exact .inl ⟨.hp, by rw [e]; rfl⟩
    · exact .inl ⟨.row, e⟩
    · rw [hget] at hp
      by_cases q : j = i
      · rw [if_pos q] at hp; cases hp
        rcases hmine k e with r | r
        · exact .inl (Fts.mine ho r)
        · exact .inr r
      · rw [if_neg q] at hp
        exact .inl (Fts.mine hp e)
  have hh := H.mine_h ho
  refine ⟨⟨(f.cell (a := ⟨h, 0, none⟩) H.hlt hh).trans H.c0, (f.cell (a := ⟨h, 1, none⟩) H.hlt hh).trans H.c1, (f.cell (a := ⟨h, 2, none⟩) H.hlt hh).trans H.c2,
    fun j => (f.frozen (a := ⟨h, j, none⟩) H.hlt hh).trans (H.free j), ?_, fun j p hp => ?_, ?_⟩, f.mono (fun k _ e => Fts.mine ho e), hFS⟩
  · rw [hmap, List.length_set]
    exact H.row.fr f (fun k hk => H.mine_row ho hk)
  · rw [hget] at hp
    by_cases q : j = i
    · rw [if_pos q] at hp; cases hp; exact hok
    · rw [if_neg q] at hp
      exact (H.ok j p hp).keep f (fun k hk => H.mine_ne hp ho q hk)
  · -- each place is as it was, or new; the new ones are of o' alone
    have old : ∀ s k, feet h ov (os.set i o') s = some k → feet h ov os s = some k ∨ (w.heap.size ≤ k ∧ ((s = .it i ∧ o'.iv.ownBlock = some k) ∨ (s = .ky i ∧ o'.kv.ownBlock = some k))) := fun s k hs => by
      rcases s with _ | _ | j | j | j
      · exact .inl hs
      · exact .inl hs
      · simp only [feet, hget] at hs ⊢
        by_cases q : j = i
        · subst q; rw [if_pos rfl] at hs; rw [ho]; left; simpa [hb] using hs
        · rw [if_neg q] at hs; exact .inl hs
      · simp only [feet, hget] at hs ⊢
        by_cases q : j = i
        · subst q
          rw [if_pos rfl] at hs
          simp only [Option.bind_some] at hs
          rw [ho]
          rcases hi with r | r
          · left; simpa [← r] using hs
          · exact .inr ⟨r k hs, .inl ⟨rfl, hs⟩⟩
        · rw [if_neg q] at hs; exact .inl hs
      · simp only [feet, hget] at hs ⊢
        by_cases q : j = i
        · subst q
          rw [if_pos rfl] at hs
          simp only [Option.bind_some] at hs
          rw [ho]
          rcases hq with r | r
          · left; simpa [← r] using hs
          · exact .inr ⟨r k hs, .inr ⟨rfl, hs⟩⟩
        · rw [if_neg q] at hs; exact .inl hs
    intro a b k ha hb'
    rcases old a k ha with r | ⟨r, r2⟩ <;> rcases old b k hb' with q | ⟨q, q2⟩
    · exact H.ap a b k r q
    · have := H.lt k ⟨a, r⟩; omega
    · have := H.lt k ⟨b, q⟩; omega
    · rcases r2 with ⟨rfl, e1⟩ | ⟨rfl, e1⟩ <;> rcases q2 with ⟨rfl, e2⟩ | ⟨rfl, e2⟩
      · rfl
      · exact absurd e2 (hx k e1)
      · exact absurd e1 (hx k e2)
      · rfl
/-- An object more: behind the append of its face onto the row, and the store of the row. -/
theorem Hp.more (H : Hp w h bud sp ov os) {o : OD} (hok : o.ok w) (hne : ∀ k, o.mine k → ¬ Fts h ov os k) (ho1 : o.iv.ownBlock ≠ some o.b ∧ o.kv.ownBlock ≠ some o.b ∧ ∀ k, o.iv.ownBlock = some k → o.kv.ownBlock ≠ some k)
    {ov' : Value} {w0 w1 : World} (f0 : Below w.heap.size w w0) (hg : w0.grownBy w1 ov.ownBlock) (hr : Ro w1 1 ov' (os.length + 1) (os.map OD.face ++ [o.face])) (hv : ov'.ownBlock = ov.ownBlock ∨ ov'.ownBlock = some w0.heap.size) :
    w1.cell? ⟨h, 2, none⟩ = some ov ∧ w1.frozen? ⟨h, 2, none⟩ = false ∧ Hp (w1.setCell ⟨h, 2, none⟩ ov') h bud sp ov' (os ++ [o]) ∧ Fr (Fts h ov os) w (w1.setCell ⟨h, 2, none⟩ ov') ∧ ∀ k, Fts h ov' (os ++ [o]) k → Fts h ov os k ∨ o.mine k ∨ w.heap.size ≤ k := by
  have f1 : Fr (fun k => ov.ownBlock = some k) w w1 := (Fr.of_below f0).grown hg (fun k hk => .inr hk)
  have f2 : Fr (fun k => k = h) w1 (w1.setCell ⟨h, 2, none⟩ ov') := (Fr.refl (fun k => k = h) w1).setCell ⟨h, 2, none⟩ (.inr rfl) _
  have hz := f0.size
  have hs1 := f1.size
  have hnew : ∀ k, ov'.ownBlock = some k → ov.ownBlock = some k ∨ w.heap.size ≤ k := fun k hk => by
    rcases hv with q | q
    · exact .inl (q ▸ hk)
    · rw [q] at hk; cases hk; exact .inr hz
  have k0 : w1.cell? ⟨h, 0, none⟩ = some (.int .i64 bud) := (f1.cell (a := ⟨h, 0, none⟩) H.hlt H.row_h).trans H.c0
  have k1 : w1.cell? ⟨h, 1, none⟩ = some (.int .i64 sp) := (f1.cell (a := ⟨h, 1, none⟩) H.hlt H.row_h).trans H.c1
  have k2 : w1.cell? ⟨h, 2, none⟩ = some ov := (f1.cell (a := ⟨h, 2, none⟩) H.hlt H.row_h).trans H.c2
  have kf : ∀ j, w1.frozen? ⟨h, j, none⟩ = false := fun j => (f1.frozen (a := ⟨h, j, none⟩) H.hlt H.row_h).trans (H.free j)
  have hvh : ov'.ownBlock ≠ some h := fun e => by
    rcases hnew h e with q | q
    · exact H.row_h q
    · have := H.hlt; omega
  have hoh : ¬ o.mine h := fun e => hne h e ⟨.hp, rfl⟩
  have hget : ∀ j p, (os ++ [o])[j]? = some p → os[j]? = some p ∨ (j = os.length ∧ p = o) := fun j p hp => by
    rcases Nat.lt_trichotomy j os.length with q | q | q
    · rw [List.getElem?_append_left q] at hp; exact .inl hp
    · subst q; simp at hp; exact .inr ⟨rfl, hp.symm⟩
    · rw [List.getElem?_append_right (by omega), List.getElem?_eq_none (by simp; omega)] at hp; cases hp
  refine ⟨k2, kf 2, ⟨?_, ?_, World.cell?_setCell_same _ _ _ k2, fun j => by rw [World.frozen?_setCell]; exact kf j, ?_, fun j p hp => ?_, ?_⟩, ?_, fun k hk => ?_⟩
  · rw [World.cell?_setCell_other _ _ _ _ (by simp)]; exact k0
  · rw [World.cell?_setCell_other _ _ _ _ (by simp)]; exact k1
  · have := hr.fr f2 (fun k hk e => hvh (e ▸ hk))
    simpa using this
  · rcases hget j p hp with q | ⟨_, rfl⟩
    · exact ((H.ok j p q).keep f1 (fun k hk e => H.mine_row q e hk)).keep f2 (fun k hk e => H.mine_h q (e ▸ hk))
    · exact (hok.keep f1 (fun k hk e => hne k hk ⟨.row, e⟩)).keep f2 (fun k hk e => hoh (e ▸ hk))
  · have old : ∀ s k, feet h ov' (os ++ [o]) s = some k → feet h ov os s = some k ∨ (s = .row ∧ w.heap.size ≤ k) ∨ (o.mine k ∧ ((s = .ob os.length ∧ k = o.b) ∨ (s = .it os.length ∧ o.iv.ownBlock = some k) ∨ (s = .ky os.length ∧ o.kv.ownBlock = some k))) := fun s k hs => by
      rcases s with _ | _ | j | j | j
      · exact .inl hs
      · rcases hnew k hs with q | q
        · exact .inl q
        · exact .inr (.inl ⟨rfl, q⟩)
      · simp only [feet, Option.map_eq_some_iff] at hs ⊢
        obtain ⟨p, hp, e⟩ := hs
        rcases hget j p hp with q | ⟨rfl, rfl⟩
        · exact .inl ⟨p, q, e⟩
        · exact .inr (.inr ⟨.inl e.symm, .inl ⟨rfl, e.symm⟩⟩)
      · simp only [feet, Option.bind_eq_some_iff] at hs ⊢
        obtain ⟨p, hp, e⟩ := hs
        rcases hget j p hp with q | ⟨rfl, rfl⟩
        · exact .inl ⟨p, q, e⟩
        · exact .inr (.inr ⟨.inr (.inl e), .inr (.inl ⟨rfl, e⟩)⟩)
      · simp only [feet, Option.bind_eq_some_iff] at hs ⊢
        obtain ⟨p, hp, e⟩ := hs
        rcases hget j p hp with q | ⟨rfl, rfl⟩
        · exact .inl ⟨p, q, e⟩
        · exact .inr (.inr ⟨.inr (.inr e), .inr (.inr ⟨rfl, e⟩)⟩)
    have hol := hok.lt
    intro a b k ha hb'
    rcases old a k ha with r | ⟨r, r2⟩ | ⟨r, r2⟩ <;> rcases old b k hb' with q | ⟨q, q2⟩ | ⟨q, q2⟩
    · exact H.ap a b k r q
    · have := H.lt k ⟨a, r⟩; omega
    · exact absurd ⟨a, r⟩ (hne k q)
    · have := H.lt k ⟨b, q⟩; omega
    · rw [r, q]
    · have := hol k q; omega
    · exact absurd ⟨b, q⟩ (hne k r)
    · have := hol k r; omega
    · obtain ⟨n1, n2, n3⟩ := ho1
      rcases r2 with ⟨rfl, e1⟩ | ⟨rfl, e1⟩ | ⟨rfl, e1⟩ <;> rcases q2 with ⟨rfl, e2⟩ | ⟨rfl, e2⟩ | ⟨rfl, e2⟩
      · rfl
      · exact absurd (e1 ▸ e2) n1
      · exact absurd (e1 ▸ e2) n2
      · exact absurd (e2 ▸ e1) n1
      · rfl
      · exact absurd e2 (n3 k e1)
      · exact absurd (e2 ▸ e1) n2
      · exact absurd e1 (n3 k e2)
      · rfl
  · exact (f1.mono (fun k _ e => ⟨.row, e⟩)).trans (f2.mono (fun k _ e => ⟨.hp, by rw [e]; rfl⟩))
  · rcases hk.cases with e | e | ⟨j, p, hp, e⟩
    · exact .inl ⟨.hp, by rw [e]; rfl⟩
    · rcases hnew k e with q | q
      · exact .inl ⟨.row, q⟩
      · exact .inr (.inr q)
    · rcases hget j p hp with q | ⟨_, rfl⟩
      · exact .inl (Fts.mine q e)
      · exact .inr (.inl e)
end
end Go.Proofs.Ytfoanikkngmeiaa.hp
