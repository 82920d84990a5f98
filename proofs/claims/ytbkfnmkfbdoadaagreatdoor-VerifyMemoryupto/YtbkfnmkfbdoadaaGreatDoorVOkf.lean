/-
  A function that Check has let through.
-/
import Derived.Test.YtbkfnmkfbdoadaaGreatDoorRCheck
import Derived.Test.YtbkfnmkfbdoadaaGreatDoorVFun
import Derived.Test.YtbkfnmkfbdoadaaGreatDoorCheck
namespace Go.Proofs.YtbkfnmkfbdoadaaGreatDoor
open Go.RowKit
set_option linter.unusedVariables false
set_option linter.unusedSimpArgs false
set_option maxRecDepth 100000
theorem csG_to {l : List Cn} : ∀ (i : Nat), i ≤ l.length → (∀ (j : Nat) (c : Cn), j < i → l[j]? = some c → conE c (l.take j) = 0) → csG [] l = csG (l.take i) (l.drop i)
  | 0, _, _ => by simp
  | i + 1, hi, h => by
    have hl : i < l.length := by omega
    rw [csG_to i (by omega) (fun j c hj hc => h j c (by omega) hc), csG_con (List.getElem?_eq_getElem hl), if_neg]
    simpa using h i _ (by omega) (List.getElem?_eq_getElem hl)
theorem csG_first {l : List Cn} {k : Nat} {c : Cn} (hk : l[k]? = some c) (h : ∀ (j : Nat) (c : Cn), j < k → l[j]? = some c → conE c (l.take j) = 0) (hb : conE c (l.take k) ≠ 0) : csG [] l = some ((k : Int), conE c (l.take k)) := by
  have hl := (List.getElem?_eq_some_iff.1 hk).1
  rw [csG_to k (by omega) h, csG_con hk, if_pos hb]
theorem csG_none {l : List Cn} : csG [] l = none ↔ ∀ (j : Nat) (c : Cn), l[j]? = some c → conE c (l.take j) = 0 := by
  constructor
  · intro h
    have key : ∀ i, i ≤ l.length → ∀ (j : Nat) (c : Cn), j < i → l[j]? = some c → conE c (l.take j) = 0 := by
      intro i
      induction i with
      | zero => intro _ j c hj; omega
      | succ i ih =>
        intro hi j c hj hc
        by_cases q : j < i
        · exact ih (by omega) j c q hc
        · have e : j = i := by omega
          subst e
          refine Classical.byContradiction fun hb => ?_
          rw [csG_first hc (fun j' c' hj' hc' => ih (by omega) j' c' hj' hc') hb] at h
          cases h
    intro j c hc
    exact key l.length (Nat.le_refl _) j c (List.getElem?_eq_some_iff.1 hc).1 hc
  · intro h
    rw [csG_to l.length (Nat.le_refl _) (fun j c _ hc => h j c hc)]
    simp [csG]
theorem fsG_to {p : Pg} {l : List Fc} : ∀ (i : Nat), i ≤ l.length → (∀ (j : Nat) (f : Fc), j < i → l[j]? = some f → fnF p f (decide (j = 0)) (decide (∃ g ∈ l.take j, g.name = f.name)) = none) → fsG p [] l = fsG p (l.take i) (l.drop i)
  | 0, _, _ => by simp
  | i + 1, hi, h => by
    have hl : i < l.length := by omega
    rw [fsG_to i (by omega) (fun j c hj hc => h j c (by omega) hc), fsG_at (List.getElem?_eq_getElem hl), h i _ (by omega) (List.getElem?_eq_getElem hl)]
theorem fsG_first {p : Pg} {l : List Fc} {k : Nat} {f : Fc} (hk : l[k]? = some f) (h : ∀ (j : Nat) (f : Fc), j < k → l[j]? = some f → fnF p f (decide (j = 0)) (decide (∃ g ∈ l.take j, g.name = f.name)) = none) {a y : Int} (hb : fnF p f (decide (k = 0)) (decide (∃ g ∈ l.take k, g.name = f.name)) = some (a, y)) : fsG p [] l = some ((k : Int), a, y) := by
  have hl := (List.getElem?_eq_some_iff.1 hk).1
  rw [fsG_to k (by omega) h, fsG_at hk, hb]
  rfl
theorem fsG_none {p : Pg} {l : List Fc} : fsG p [] l = none ↔ ∀ (j : Nat) (f : Fc), l[j]? = some f → fnF p f (decide (j = 0)) (decide (∃ g ∈ l.take j, g.name = f.name)) = none := by
  constructor
  · intro h
    have key : ∀ i, i ≤ l.length → ∀ (j : Nat) (f : Fc), j < i → l[j]? = some f → fnF p f (decide (j = 0)) (decide (∃ g ∈ l.take j, g.name = f.name)) = none := by
      intro i
      induction i with
      | zero => intro _ j c hj; omega
      | succ i ih =>
        intro hi j c hj hc
        by_cases q : j < i
        · exact ih (by omega) j c q hc
        · have e : j = i := by omega
          subst e
          cases hb : fnF p c (decide (j = 0)) (decide (∃ g ∈ l.take j, g.name = c.name)) with
          | none => rfl
          | some e =>
            obtain ⟨a, y⟩ := e
            rw [fsG_first hc (fun j' c' hj' hc' => ih (by omega) j' c' hj' hc') hb] at h
            cases h
    intro j c hc
    exact key l.length (Nat.le_refl _) j c (List.getElem?_eq_some_iff.1 hc).1 hc
  · intro h
    rw [fsG_to l.length (Nat.le_refl _) (fun j c _ hc => h j c hc)]
    simp [fsG]
/-- Are all constants right? All functions? -/
def GdC (l : List Cn) : Prop := l.length ≤ 512 ∧ ∀ (j : Nat) (c : Cn), l[j]? = some c → conE c (l.take j) = 0
def GdF (p : Pg) (l : List Fc) : Prop := ∀ (j : Nat) (f : Fc), l[j]? = some f → fnF p f (decide (j = 0)) (decide (∃ g ∈ l.take j, g.name = f.name)) = none
theorem csF_none {l : List Cn} : csF l = none ↔ GdC l := by
  unfold csF GdC
  by_cases h : l.length > 512
  · rw [if_pos h]; simp; omega
  · rw [if_neg h, csG_none]; simp; omega
theorem ckF_none {p : Pg} : ckF p = none ↔ GdC p.consts ∧ 0 < p.funcs.length ∧ p.funcs.length ≤ 128 ∧ GdF p p.funcs := by
  unfold ckF
  cases h : csF p.consts with
  | some e =>
    obtain ⟨a, y⟩ := e
    have : ¬ GdC p.consts := fun q => by rw [csF_none.2 q] at h; cases h
    simp [inE, this]
  | none =>
    have hc := csF_none.1 h
    simp only [hc, true_and]
    by_cases h0 : p.funcs.length = 0
    · rw [if_pos h0]; simp; omega
    · rw [if_neg h0]
      by_cases h1 : p.funcs.length > 128
      · rw [if_pos h1]; simp; omega
      · rw [if_neg h1, fsG_none]
        constructor
        · intro q; exact ⟨by omega, by omega, q⟩
        · intro q; exact q.2.2
theorem ckF_const {p : Pg} (hl : p.consts.length ≤ 512) {k : Nat} {c : Cn} (hk : p.consts[k]? = some c) (h : ∀ (j : Nat) (c : Cn), j < k → p.consts[j]? = some c → conE c (p.consts.take j) = 0) {e : Int} (hb : conE c (p.consts.take k) = e) (he : e ≠ 0) : ckF p = some (-1, (k : Int), e) := by
  unfold ckF csF
  rw [if_neg (by omega), csG_first hk h (by rw [hb]; exact he), hb]
  rfl
theorem ckF_func {p : Pg} (hc : GdC p.consts) (hn : p.funcs.length ≤ 128) {k : Nat} {f : Fc} (hk : p.funcs[k]? = some f) (h : ∀ (j : Nat) (f : Fc), j < k → p.funcs[j]? = some f → fnF p f (decide (j = 0)) (decide (∃ g ∈ p.funcs.take j, g.name = f.name)) = none) {a y : Int} (hb : fnF p f (decide (k = 0)) (decide (∃ g ∈ p.funcs.take k, g.name = f.name)) = some (a, y)) : ckF p = some ((k : Int), a, y) := by
  have hl := (List.getElem?_eq_some_iff.1 hk).1
  unfold ckF
  rw [csF_none.2 hc]
  simp only
  rw [if_neg (by omega), if_neg (by omega), fsG_first hk h hb]
theorem orE_none {a b : Option (Int × Int)} : orE a b = none ↔ a = none ∧ b = none := by
  cases a <;> simp [orE]
theorem fnF_none {p : Pg} {f : Fc} {m t : Bool} : fnF p f m t = none ↔ nmF f.name t = none ∧ szF f m = none ∧ cdF p f = none ∧ hsF f = none := by
  unfold fnF; rw [orE_none, orE_none, orE_none]
theorem nmF_none {s : ByteArray} {t : Bool} : nmF s t = none ↔ spB s = true ∧ s.size ≤ 32 ∧ t = false := by
  unfold nmF
  by_cases h1 : spB s = false
  · rw [if_pos h1]; simp [h1]
  · rw [if_neg h1]
    by_cases h2 : s.size > 32
    · rw [if_pos h2]; simp; intro _; omega
    · rw [if_neg h2]
      cases t <;> simp_all
theorem szF_none {f : Fc} {m : Bool} : szF f m = none ↔ 0 ≤ f.params ∧ f.params ≤ f.locals ∧ (m = true → f.params = 0) ∧ f.locals ≤ 64 ∧ 0 < f.code.length ∧ f.code.length ≤ 2000 := by
  unfold szF
  by_cases h1 : f.params < 0 ∨ f.locals < f.params ∨ (m = true ∧ f.params ≠ 0)
  · rw [if_pos h1]
    constructor
    · intro q; cases q
    · intro ⟨a1, a2, a3, _⟩
      rcases h1 with h1 | h1 | ⟨h1, h2⟩
      · omega
      · omega
      · exact absurd (a3 h1) h2
  · rw [if_neg h1]
    have h2 : 0 ≤ f.params ∧ f.params ≤ f.locals ∧ (m = true → f.params = 0) := by
      refine ⟨?_, ?_, fun q => ?_⟩
      · refine Classical.byContradiction fun q => h1 (.inl (by omega))
      · refine Classical.byContradiction fun q => h1 (.inr (.inl (by omega)))
      · exact Classical.byContradiction fun q2 => h1 (.inr (.inr ⟨q, q2⟩))
    by_cases h3 : f.locals > 64
    · rw [if_pos h3]; simp; intro _ _ _; omega
    · rw [if_neg h3]
      by_cases h4 : f.code.length = 0
      · rw [if_pos h4]; simp; intro _ _ _ _; omega
      · rw [if_neg h4]
        by_cases h5 : f.code.length > 2000
        · rw [if_pos h5]; simp; intro _ _ _ _ _; omega
        · rw [if_neg h5]
          exact ⟨fun _ => ⟨h2.1, h2.2.1, h2.2.2, by omega, by omega, by omega⟩, fun _ => rfl⟩
theorem cdG_to {p : Pg} {f : Fc} {l : List (Int × Int)} : ∀ (i : Nat), i ≤ l.length → (∀ (j : Nat) (q : Int × Int), j < i → l[j]? = some q → erN q.1 q.2 = 0 ∧ nmB p f q.1 q.2 = true) → cdG p f l 0 = cdG p f (l.drop i) i
  | 0, _, _ => by simp
  | i + 1, hi, h => by
    have hl : i < l.length := by omega
    obtain ⟨h1, h2⟩ := h i _ (by omega) (List.getElem?_eq_getElem hl)
    rw [cdG_to i (by omega) (fun j c hj hc => h j c (by omega) hc), cdG_at (List.getElem?_eq_getElem hl), if_neg (by rw [h1]; simp), if_neg (by rw [h2]; simp)]
theorem cdF_first {p : Pg} {f : Fc} {k : Nat} {q : Int × Int} (hk : f.code[k]? = some q) (h : ∀ (j : Nat) (q : Int × Int), j < k → f.code[j]? = some q → erN q.1 q.2 = 0 ∧ nmB p f q.1 q.2 = true) : cdF p f = if erN q.1 q.2 ≠ 0 then some ((k : Int), erN q.1 q.2) else if nmB p f q.1 q.2 = false then some ((k : Int), 8) else cdG p f (f.code.drop (k + 1)) (k + 1) := by
  have hl := (List.getElem?_eq_some_iff.1 hk).1
  unfold cdF
  rw [cdG_to k (by omega) h, cdG_at hk]
theorem cdF_none {p : Pg} {f : Fc} : cdF p f = none ↔ ∀ (j : Nat) (q : Int × Int), f.code[j]? = some q → erN q.1 q.2 = 0 ∧ nmB p f q.1 q.2 = true := by
  constructor
  · intro h
    have key : ∀ i, i ≤ f.code.length → ∀ (j : Nat) (q : Int × Int), j < i → f.code[j]? = some q → erN q.1 q.2 = 0 ∧ nmB p f q.1 q.2 = true := by
      intro i
      induction i with
      | zero => intro _ j c hj; omega
      | succ i ih =>
        intro hi j c hj hc
        by_cases q : j < i
        · exact ih (by omega) j c q hc
        · have e : j = i := by omega
          subst e
          rw [cdF_first hc (fun j' c' hj' hc' => ih (by omega) j' c' hj' hc')] at h
          by_cases h1 : erN c.1 c.2 ≠ 0
          · rw [if_pos h1] at h; cases h
          · rw [if_neg h1] at h
            by_cases h2 : nmB p f c.1 c.2 = false
            · rw [if_pos h2] at h; cases h
            · exact ⟨by simpa using h1, by simpa using h2⟩
    intro j c hc
    exact key _ (Nat.le_refl _) j c (List.getElem?_eq_some_iff.1 hc).1 hc
  · intro h
    unfold cdF
    rw [cdG_to f.code.length (Nat.le_refl _) (fun j c _ hc => h j c hc)]
    simp [cdG]
theorem hsG_none {n : Int} {l : List Hd} : hsG n l 0 = none ↔ ∀ (j : Nat) (g : Hd), l[j]? = some g → fitB g n = true := by
  constructor
  · have key : ∀ (l : List Hd) (k : Nat), hsG n l k = none → ∀ (j : Nat) (g : Hd), l[j]? = some g → fitB g n = true := by
      intro l
      induction l with
      | nil => intro k _ j g hg; simp at hg
      | cons a r ih =>
        intro k h j g hg
        rw [hsG] at h
        by_cases q : fitB a n = true
        · rw [if_pos q] at h
          cases j with
          | zero => simp at hg; subst hg; exact q
          | succ j => simp at hg; exact ih (k + 1) h j g hg
        · rw [if_neg q] at h; cases h
    exact key l 0
  · exact hsG_ok
theorem hsF_none {f : Fc} : hsF f = none ↔ f.hs.length ≤ 32 ∧ ∀ (j : Nat) (g : Hd), f.hs[j]? = some g → fitB g f.code.length = true := by
  unfold hsF
  by_cases h : f.hs.length > 32
  · rw [if_pos h]; simp; intro _; omega
  · rw [if_neg h, hsG_none]; simp; intro _; omega
theorem nmB_congr {p p' : Pg} {f f' : Fc} (h1 : p'.consts = p.consts) (h2 : p'.funcs.length = p.funcs.length) (h3 : f'.code.length = f.code.length) (h4 : f'.locals = f.locals) (op a : Int) : nmB p' f' op a = nmB p f op a := by
  unfold nmB ckB
  rw [h1, h2, h3, h4]
theorem cdF_congr {p p' : Pg} {f : Fc} (h1 : p'.consts = p.consts) (h2 : p'.funcs.length = p.funcs.length) : cdF p' f = cdF p f := by
  have key : ∀ (l : List (Int × Int)) (i : Nat), cdG p' f l i = cdG p f l i := by
    intro l
    induction l with
    | nil => intro i; rfl
    | cons q r ih => intro i; obtain ⟨op, a⟩ := q; rw [cdG, cdG, nmB_congr h1 h2 rfl rfl, ih]
  exact key _ _
theorem fnF_congr {p p' : Pg} {f : Fc} (h1 : p'.consts = p.consts) (h2 : p'.funcs.length = p.funcs.length) (m t : Bool) : fnF p' f m t = fnF p f m t := by
  unfold fnF
  rw [cdF_congr h1 h2]
theorem take_set {T : Type} {l : List T} {k j : Nat} {x : T} (h : j ≤ k) : (l.set k x).take j = l.take j := by
  rw [List.take_set]
  exact List.set_eq_of_length_le (by rw [List.length_take]; omega)
/-- A function of a right program is put in another's place: what is found. -/
theorem ckF_setF {p : Pg} (hg : ckF p = none) {k : Nat} {f f' : Fc} (hk : p.funcs[k]? = some f) {a y : Int} (hb : fnF p f' (decide (k = 0)) (decide (∃ g ∈ p.funcs.take k, g.name = f'.name)) = some (a, y)) : ckF { p with funcs := p.funcs.set k f' } = some ((k : Int), a, y) := by
  obtain ⟨g1, g2, g3, g4⟩ := ckF_none.1 hg
  have hl := (List.getElem?_eq_some_iff.1 hk).1
  refine ckF_func (p := { p with funcs := p.funcs.set k f' }) (f := f') g1 (show (p.funcs.set k f').length ≤ 128 by rw [List.length_set]; exact g3) (show (p.funcs.set k f')[k]? = some f' from List.getElem?_set_self hl) (fun j f2 hj h2 => ?_) ?_
  · have h3 : (p.funcs.set k f')[j]? = some f2 := h2
    rw [List.getElem?_set_ne (show k ≠ j by omega)] at h3
    rw [fnF_congr (p := p) (p' := { p with funcs := p.funcs.set k f' }) rfl (by simp), show (({ p with funcs := p.funcs.set k f' } : Pg).funcs.take j) = p.funcs.take j from take_set (by omega)]
    exact g4 j f2 h3
  · rw [fnF_congr (p := p) (p' := { p with funcs := p.funcs.set k f' }) rfl (by simp), show (({ p with funcs := p.funcs.set k f' } : Pg).funcs.take k) = p.funcs.take k from take_set (Nat.le_refl _)]
    exact hb

set_option linter.unusedVariables false
set_option linter.unusedSimpArgs false
theorem Tryz.info27 : (Tryz.prog.info? 27).map (fun i => (i.zero, i.size, i.bytes)) = some (some (.slice none 0 0), 1, 24) := by kernel_rfl
theorem wpList_appL {w : World} {ops : Array Oper} {rest : List Oper} {o : Oper} {a : Act} {Q : Exit → Act → World → Prop}
    (hg : o.guard = none) (s x : Operand) (hop : o.op = Op.call { callee := Callee.builtin Builtin.append, args := #[s, x], argTypes := #[26, 26] })
    (v : Value) (n : Nat) (l : List Value) (hs : a.eval s = v) (hr : Ro w 1 v n l) (ad : Addr) (c : Nat) (k : Value) (hk : k.oneCell' = true) (hx : a.eval x = .slice (some ad) 1 c) (hc : ∀ j u, [k][j]? = some u → w.cell? (ad.add j) = some u)
    (hN : n < 1000000000)
    (hK : ∀ v' w', Ro w' 1 v' (n + 1) (l ++ [k]) → w.grownBy w' v.ownBlock → (v'.ownBlock = v.ownBlock ∨ v'.ownBlock = some w.heap.size) → wpList Tryz.prog ops Q rest (a.put o.dst v') w') :
    wpList Tryz.prog ops Q (o :: rest) a w := by
  obtain ⟨i0, hi0, hz0, hz1, hz2⟩ := info_parts Tryz.info27
  exact wpList_app hg s x 26 hop 27 i0 _ 1 24 Tryz.underlying26 hi0 hz0 hz1 hz2 rfl (by decide) v n l hs hr ad 1 c [k] hx rfl hc (by simpa using hk) (by omega) (by unfold maxLen; omega) (by omega) hK
/-- The facts so far. -/
structure FS (w0 : World) (qb : Nat) (hv mv : Value) (vs : List Value) (L Lm : List (List Int)) (W : World) : Prop where
  c0 : W.cell? ⟨qb, 0, none⟩ = some hv
  c1 : W.cell? ⟨qb, 1, none⟩ = some mv
  fz : ∀ j, W.frozen? ⟨qb, j, none⟩ = false
  hr : Ro W 1 hv L.length vs
  mr : Ro W 1 mv Lm.length (flt enN (Lm.map mxl))
  el : ∀ (i : Nat) (l : List Int) (u : Value), L[i]? = some l → vs[i]? = some u → Ro W 1 u l.length (flt enN l) ∧ ∀ k, u.ownBlock = some k → w0.heap.size ≤ k ∧ k ≠ qb ∧ hv.ownBlock ≠ some k ∧ mv.ownBlock ≠ some k
  ho : ∀ k, hv.ownBlock = some k → w0.heap.size ≤ k ∧ k ≠ qb ∧ mv.ownBlock ≠ some k
  mo : ∀ k, mv.ownBlock = some k → w0.heap.size ≤ k ∧ k ≠ qb
  qB : w0.heap.size ≤ qb
  bl : Below w0.heap.size w0 W
  ap : ∀ (i j : Nat) (u v : Value) (k : Nat), i ≠ j → vs[i]? = some u → vs[j]? = some v → u.ownBlock = some k → v.ownBlock ≠ some k
section
variable {w0 W Y : World} {qb : Nat} {hv mv : Value} {vs : List Value} {L Lm : List (List Int)}
theorem FS.lt (h : FS w0 qb hv mv vs L Lm W) : qb < W.heap.size := World.block_lt_of_cell? _ _ h.c0
theorem FS.keep (h : FS w0 qb hv mv vs L Lm W) (k : Below W.heap.size W Y) : FS w0 qb hv mv vs L Lm Y := by
  have f : Fr (fun _ => False) W Y := Fr.of_below k
  exact ⟨(f.cell (a := ⟨qb, 0, none⟩) h.lt (fun e => e)).trans h.c0, (f.cell (a := ⟨qb, 1, none⟩) h.lt (fun e => e)).trans h.c1, fun j => (f.frozen (a := ⟨qb, j, none⟩) h.lt (fun e => e)).trans (h.fz j), h.hr.fr f (fun _ _ e => e), h.mr.fr f (fun _ _ e => e), fun i l u h1 h2 => ⟨(h.el i l u h1 h2).1.fr f (fun _ _ e => e), (h.el i l u h1 h2).2⟩, h.ho, h.mo, h.qB, h.bl.trans (k.mono h.bl.size), h.ap⟩
theorem FS.first (w0 : World) : FS w0 w0.heap.size (.slice none 0 0) (.slice none 0 0) [] [] [] (w0.alloc (.cells #[.slice none 0 0, .slice none 0 0] 29)) := by
  have hg := heap_alloc_new w0 (.cells #[.slice none 0 0, .slice none 0 0] 29)
  refine ⟨?_, ?_, fun j => ?_, Ro.nil _ _, Ro.nil _ _, fun i l u h1 => by simp at h1, fun k hk => by simp [Value.ownBlock] at hk, fun k hk => by simp [Value.ownBlock] at hk, Nat.le_refl _, (Below.refl _ _).alloc (Nat.le_refl _) _, fun i j u v k _ h1 => by simp at h1⟩
  · simp only [World.cell?, hg]; rfl
  · simp only [World.cell?, hg]; rfl
  · simp only [World.frozen?, hg]; rfl
/-- Heights are laid behind the others. -/
theorem FS.rowlt (h : FS w0 qb hv mv vs L Lm W) {j k : Nat} {v : Value} (hv' : vs[j]? = some v) (hk : v.ownBlock = some k) : k < W.heap.size := by
  have hl := h.hr.1
  have hj := (List.getElem?_eq_some_iff.1 hv').1
  have hj2 : j < L.length := by omega
  exact (h.el j _ v (List.getElem?_eq_getElem hj2) hv').1.lt k hk
theorem FS.pushH {l : List Int} {u hv' : Value} {o : Obj} (h : FS w0 qb hv mv vs L Lm W) (hu : Ro W 1 u l.length (flt enN l)) (hf : ∀ k, u.ownBlock = some k → w0.heap.size ≤ k ∧ k ≠ qb ∧ hv.ownBlock ≠ some k ∧ mv.ownBlock ≠ some k) (hq : ∀ (j : Nat) (v : Value) (k : Nat), vs[j]? = some v → v.ownBlock = some k → u.ownBlock ≠ some k)
    (hr : Ro Y 1 hv' (L.length + 1) (vs ++ [u])) (hg : (W.alloc o).grownBy Y hv.ownBlock) (hat : hv'.ownBlock = hv.ownBlock ∨ hv'.ownBlock = some (W.heap.size + 1)) :
    Y.cell? ⟨qb, 0, none⟩ = some hv ∧ Y.frozen? ⟨qb, 0, none⟩ = false ∧ Hid (FS w0 qb hv' mv (vs ++ [u]) (L ++ [l]) Lm (Y.setCell ⟨qb, 0, none⟩ hv')) := by
  have fy : Fr (fun k => hv.ownBlock = some k) W Y := ((Fr.refl _ W).alloc o).grown hg (fun k e => .inr e)
  have fs : Fr (fun k => k = qb) Y (Y.setCell ⟨qb, 0, none⟩ hv') := (Fr.refl (fun k => k = qb) Y).cellset qb 0 _ rfl
  have lt := h.lt
  have hsz := h.bl.size
  have qn : ¬ hv.ownBlock = some qb := fun e => (h.ho qb e).2.1 rfl
  have cY0 := (fy.cell (a := ⟨qb, 0, none⟩) lt qn).trans h.c0
  have cY1 := (fy.cell (a := ⟨qb, 1, none⟩) lt qn).trans h.c1
  have fY : ∀ j, Y.frozen? ⟨qb, j, none⟩ = false := fun j => (fy.frozen (a := ⟨qb, j, none⟩) lt qn).trans (h.fz j)
  have ho' : ∀ k, hv'.ownBlock = some k → w0.heap.size ≤ k ∧ k ≠ qb ∧ mv.ownBlock ≠ some k := fun k hk => by
    rcases hat with q | q
    · exact h.ho k (q ▸ hk)
    · rw [q] at hk
      cases hk
      exact ⟨by omega, by omega, fun e => by have := h.mr.lt _ e; omega⟩
  have hne : ∀ {v : Value} {n : Nat} {xs : List Value}, Ro W 1 v n xs → (∀ k, v.ownBlock = some k → k ≠ qb ∧ hv.ownBlock ≠ some k) → Ro (Y.setCell ⟨qb, 0, none⟩ hv') 1 v n xs := fun r hk => (r.fr fy (fun k e => (hk k e).2)).fr fs (fun k e => (hk k e).1)
  have hfr' : ∀ {v : Value} {n : Nat} {xs : List Value}, Ro W 1 v n xs → (∀ k, v.ownBlock = some k → hv.ownBlock ≠ some k) → ∀ k, v.ownBlock = some k → hv'.ownBlock ≠ some k := fun r hk k e e2 => by
    rcases hat with q | q
    · exact hk k e (q ▸ e2)
    · rw [q] at e2
      cases e2
      have := r.lt _ e
      omega
  have ap' : ∀ (i j : Nat) (x y : Value) (k : Nat), i ≠ j → (vs ++ [u])[i]? = some x → (vs ++ [u])[j]? = some y → x.ownBlock = some k → y.ownBlock ≠ some k := fun i j x y k hij h1 h2 hx hy => by
    by_cases hi : i < vs.length
    · rw [List.getElem?_append_left hi] at h1
      by_cases hj : j < vs.length
      · rw [List.getElem?_append_left hj] at h2
        exact h.ap i j x y k hij h1 h2 hx hy
      · rw [List.getElem?_append_right (by omega)] at h2
        have e := (List.getElem?_eq_some_iff.1 h2).1
        have e0 : j - vs.length = 0 := by simp at e; omega
        rw [e0] at h2
        simp at h2
        subst h2
        exact hq i x k h1 hx hy
    · rw [List.getElem?_append_right (by omega)] at h1
      have e := (List.getElem?_eq_some_iff.1 h1).1
      have e0 : i - vs.length = 0 := by simp at e; omega
      rw [e0] at h1
      simp at h1
      subst h1
      have hj : j < vs.length := by
        have := (List.getElem?_eq_some_iff.1 h2).1
        simp at this
        omega
      rw [List.getElem?_append_left hj] at h2
      exact hq j y k h2 hy hx
  refine ⟨cY0, fY 0, ⟨World.cell?_setCell_same Y _ _ cY0, ?_, fun j => ?_, ?_, ?_, fun i l' u' h1 h2 => ?_, ho', h.mo, h.qB, ?_, ap'⟩⟩
  · rw [World.cell?_setCell_other Y _ _ _ (by simp)]; exact cY1
  · rw [World.frozen?_setCell]; exact fY j
  · rw [List.length_append]; exact hr.fr fs (fun k hk => (ho' k hk).2.1)
  · exact hne h.mr (fun k hk => ⟨(h.mo k hk).2, fun e => (h.ho k e).2.2 hk⟩)
  · by_cases hi : i < L.length
    · rw [List.getElem?_append_left hi] at h1
      have hvl := h.hr.1
      rw [List.getElem?_append_left (by omega)] at h2
      obtain ⟨r, rk⟩ := h.el i l' u' h1 h2
      exact ⟨hne r (fun k hk => ⟨(rk k hk).2.1, (rk k hk).2.2.1⟩), fun k hk => ⟨(rk k hk).1, (rk k hk).2.1, hfr' r (fun k hk => (rk k hk).2.2.1) k hk, (rk k hk).2.2.2⟩⟩
    · have hvl := h.hr.1
      rw [List.getElem?_append_right (by omega)] at h1 h2
      have e1 : i - L.length = 0 := by
        have := (List.getElem?_eq_some_iff.1 h1).1
        simp at this; omega
      have e2 : i - vs.length = 0 := by omega
      rw [e1] at h1; rw [e2] at h2
      simp at h1 h2
      subst h1 h2
      exact ⟨hne hu (fun k hk => ⟨(hf k hk).2.1, (hf k hk).2.2.1⟩), fun k hk => ⟨(hf k hk).1, (hf k hk).2.1, hfr' hu (fun k hk => (hf k hk).2.2.1) k hk, (hf k hk).2.2.2⟩⟩
  · exact (h.bl.trans (fy.below hsz (fun k hk e => by have := h.ho k e; omega))).trans (fs.below (by have := fy.size; omega) (fun k hk e => by have := h.qB; omega))
/-- The greatest likewise. -/
theorem FS.pushM {l : List Int} {mv' : Value} {o : Obj} (h : FS w0 qb hv mv vs L Lm W)
    (hr : Ro Y 1 mv' (Lm.length + 1) (flt enN (Lm.map mxl) ++ enN (mxl l))) (hg : (W.alloc o).grownBy Y mv.ownBlock) (hat : mv'.ownBlock = mv.ownBlock ∨ mv'.ownBlock = some (W.heap.size + 1)) :
    Y.cell? ⟨qb, 1, none⟩ = some mv ∧ Y.frozen? ⟨qb, 1, none⟩ = false ∧ Hid (FS w0 qb hv mv' vs L (Lm ++ [l]) (Y.setCell ⟨qb, 1, none⟩ mv')) := by
  have fy : Fr (fun k => mv.ownBlock = some k) W Y := ((Fr.refl _ W).alloc o).grown hg (fun k e => .inr e)
  have fs : Fr (fun k => k = qb) Y (Y.setCell ⟨qb, 1, none⟩ mv') := (Fr.refl (fun k => k = qb) Y).cellset qb 1 _ rfl
  have lt := h.lt
  have hsz := h.bl.size
  have qn : ¬ mv.ownBlock = some qb := fun e => (h.mo qb e).2 rfl
  have cY0 := (fy.cell (a := ⟨qb, 0, none⟩) lt qn).trans h.c0
  have cY1 := (fy.cell (a := ⟨qb, 1, none⟩) lt qn).trans h.c1
  have fY : ∀ j, Y.frozen? ⟨qb, j, none⟩ = false := fun j => (fy.frozen (a := ⟨qb, j, none⟩) lt qn).trans (h.fz j)
  have mo' : ∀ k, mv'.ownBlock = some k → w0.heap.size ≤ k ∧ k ≠ qb := fun k hk => by
    rcases hat with q | q
    · exact h.mo k (q ▸ hk)
    · rw [q] at hk
      cases hk
      exact ⟨by omega, by omega⟩
  have hne : ∀ {v : Value} {n : Nat} {xs : List Value}, Ro W 1 v n xs → (∀ k, v.ownBlock = some k → k ≠ qb ∧ mv.ownBlock ≠ some k) → Ro (Y.setCell ⟨qb, 1, none⟩ mv') 1 v n xs := fun r hk => (r.fr fy (fun k e => (hk k e).2)).fr fs (fun k e => (hk k e).1)
  have hfr' : ∀ {v : Value} {n : Nat} {xs : List Value}, Ro W 1 v n xs → (∀ k, v.ownBlock = some k → mv.ownBlock ≠ some k) → ∀ k, v.ownBlock = some k → mv'.ownBlock ≠ some k := fun r hk k e e2 => by
    rcases hat with q | q
    · exact hk k e (q ▸ e2)
    · rw [q] at e2
      cases e2
      have := r.lt _ e
      omega
  refine ⟨cY1, fY 1, ⟨?_, World.cell?_setCell_same Y _ _ cY1, fun j => ?_, hne h.hr (fun k hk => ⟨(h.ho k hk).2.1, (h.ho k hk).2.2⟩), ?_, fun i l' u' h1 h2 => ?_, fun k hk => ⟨(h.ho k hk).1, (h.ho k hk).2.1, hfr' h.hr (fun k hk => (h.ho k hk).2.2) k hk⟩, mo', h.qB, ?_, h.ap⟩⟩
  · rw [World.cell?_setCell_other Y _ _ _ (by simp)]; exact cY0
  · rw [World.frozen?_setCell]; exact fY j
  · rw [List.length_append, List.map_append, flt_append]
    simp only [List.map_cons, List.map_nil, flt_one]
    exact hr.fr fs (fun k hk => (mo' k hk).2)
  · obtain ⟨r, rk⟩ := h.el i l' u' h1 h2
    exact ⟨hne r (fun k hk => ⟨(rk k hk).2.1, (rk k hk).2.2.2⟩), fun k hk => ⟨(rk k hk).1, (rk k hk).2.1, (rk k hk).2.2.1, hfr' r (fun k hk => (rk k hk).2.2.2) k hk⟩⟩
  · exact (h.bl.trans (fy.below hsz (fun k hk e => by have := h.mo k e; omega))).trans (fs.below (by have := fy.size; omega) (fun k hk e => by have := h.qB; omega))
end

set_option linter.unusedVariables false
theorem right2 {a : Int} (h : rightB 2 a = true) : 0 ≤ a := by
  have e1 : lo 2 = 0 := rfl
  simp only [rightB, e1] at h
  simp at h
  exact h.1
theorem OkF.of {p : Pg} (h : ckF p = none) {i : Nat} {f : Fc} (hi : p.funcs[i]? = some f) : OkF f := by
  obtain ⟨_, _, _, hF⟩ := ckF_none.1 h
  obtain ⟨_, hs, hc, hh⟩ := fnF_none.1 (hF i f hi)
  obtain ⟨_, _, _, _, h5, h6⟩ := szF_none.1 hs
  obtain ⟨g1, g2⟩ := hsF_none.1 hh
  have hcd := cdF_none.1 hc
  refine ⟨h5, h6, by omega, fun j op a hj => ?_, fun k hk => ?_⟩
  · obtain ⟨e1, e2⟩ := hcd j (op, a) hj
    simp only at e1 e2
    have hok : okB op a = true := by
      unfold erN at e1
      split at e1
      · assumption
      · omega
    refine ⟨hok, fun hj => ?_⟩
    have hop : isOp op = true := by simp [okB] at hok; exact hok.1
    have ho : 0 ≤ op ∧ op < 67 := by simpa [isOp] using hop
    obtain ⟨k, rfl⟩ : ∃ k : Nat, op = k := ⟨op.toNat, by omega⟩
    have hk : k < 67 := by omega
    rw [jm_kd k hk] at hj
    have hk2 : kd k = 2 := by have := of_decide_eq_true hj; omega
    unfold nmB at e2
    rw [kdI_nat hk, hk2] at e2
    have hr : rightB 2 a = true := by rw [okB_op hk, hk2] at hok; exact hok
    exact ⟨right2 hr, by simpa using e2⟩
  · obtain ⟨j, hj, e⟩ := List.getElem_of_mem hk
    have := g2 j k (by rw [← e]; exact List.getElem?_eq_getElem hj)
    unfold fitB at this
    have := of_decide_eq_true this
    omega
/-- What Program finds: the place and why, or the heights of all functions. -/
def VpR (p : Pg) (L : Option (List (List Int))) (k a er : Int) : Prop :=
  (∃ y, ckF p = some (k, a, y) ∧ er = y ∧ L = none ∧ er ≠ 0) ∨
  (ckF p = none ∧ ∃ (i : Nat) (f : Fc), p.funcs[i]? = some f ∧ k = (i : Int) ∧ L = none ∧ er ≠ 0 ∧ FnR f none a er ∧ ∀ (j : Nat) (g : Fc), j < i → p.funcs[j]? = some g → ∃ l, FnR g (some l) 0 0) ∨
  (ckF p = none ∧ k = 0 ∧ a = 0 ∧ er = 0 ∧ ∃ Ls, L = some Ls ∧ Ls.length = p.funcs.length ∧ ∀ (i : Nat) (f : Fc) (l : List Int), p.funcs[i]? = some f → Ls[i]? = some l → FnR f (some l) 0 0)
end Go.Proofs.YtbkfnmkfbdoadaaGreatDoor
