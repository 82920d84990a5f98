/-
  What is wanted where: the rules, told of lists.
-/
import Derived.Test.YtpbdmbmafjkinaaDoorRgT
namespace Go.Proofs.YtpbdmbmafjkinaaDoor
set_option linter.unusedVariables false
set_option linter.unusedSimpArgs false
def quiet (x : RIn) : Bool := decide (x.op = 1) || decide (x.op = 2)
def askL (l : List Op) (r : Nat) : Bool := l.any (fun o => decide (o.k = 0 ∧ o.n = (r : Int)))
def askE (x : RIn) (r : Nat) : Bool := askL x.args r || x.ex.any (fun s => askL s.sl r)
abbrev Rset := Nat → Bool
def inS (S : Rset) (d : Int) : Bool := decide (0 ≤ d) && S d.toNat
def idle (S : Rset) (x : RIn) : Bool := quiet x && !inS S x.dst
/-- What is wanted ahead of an instruction, by what is wanted behind it. -/
def backS (S : Rset) (x : RIn) : Rset := fun r => if idle S x = true then S r else (decide (r < 512) && askE x r) || (S r && decide (x.dst ≠ (r : Int)))
def backL (S : Rset) (l : List RIn) : Rset := l.foldr (fun x s => backS s x) S
def Sub (S T : Rset) : Prop := ∀ r, S r = true → T r = true
theorem Sub.refl (S : Rset) : Sub S S := fun _ h => h
theorem Sub.trans {S T U : Rset} (h : Sub S T) (k : Sub T U) : Sub S U := fun r q => k r (h r q)
theorem Sub.anti {S T : Rset} (h : Sub S T) (k : Sub T S) : S = T := funext (fun r => by
  have a := h r
  have b := k r
  cases hs : S r <;> cases ht : T r <;> simp_all)
theorem inS_mono {S T : Rset} (h : Sub S T) {d : Int} (q : inS S d = true) : inS T d = true := by
  simp only [inS, Bool.and_eq_true] at q ⊢
  exact ⟨q.1, h _ q.2⟩
theorem inS_self (S : Rset) {d : Int} {r : Nat} (h : d = (r : Int)) : inS S d = S r := by
  subst h; simp [inS]
theorem backS_mono {S T : Rset} (h : Sub S T) (x : RIn) : Sub (backS S x) (backS T x) := fun r q => by
  unfold backS at q ⊢
  by_cases iT : idle T x = true
  · rw [if_pos iT]
    have iS : idle S x = true := by
      simp only [idle, Bool.and_eq_true, Bool.not_eq_true'] at iT ⊢
      refine ⟨iT.1, ?_⟩
      cases e : inS S x.dst with
      | false => rfl
      | true => have := inS_mono h e; rw [iT.2] at this; cases this
    rw [if_pos iS] at q
    exact h r q
  · rw [if_neg iT]
    by_cases iS : idle S x = true
    · rw [if_pos iS] at q
      simp only [Bool.or_eq_true, Bool.and_eq_true, decide_eq_true_eq]
      refine .inr ⟨h r q, fun e => ?_⟩
      simp only [idle, Bool.and_eq_true, Bool.not_eq_true'] at iS
      rw [inS_self S e, q] at iS
      cases iS.2
    · rw [if_neg iS] at q
      simp only [Bool.or_eq_true, Bool.and_eq_true, decide_eq_true_eq] at q ⊢
      rcases q with q | q
      · exact .inl q
      · exact .inr ⟨h r q.1, q.2⟩
theorem backL_mono {S T : Rset} (h : Sub S T) : ∀ l, Sub (backL S l) (backL T l)
  | [] => h
  | x :: l => backS_mono (backL_mono h l) x
theorem backL_cons (S : Rset) (x : RIn) (l : List RIn) : backL S (x :: l) = backS (backL S l) x := rfl
theorem backL_drop (S : Rset) (l : List RIn) {i : Nat} {x : RIn} (h : l[i]? = some x) : backL S (l.drop i) = backS (backL S (l.drop (i + 1))) x := by
  obtain ⟨hi, rfl⟩ := List.getElem?_eq_some_iff.1 h
  rw [List.drop_eq_getElem_cons hi, backL_cons]
/-- Sets of registers. -/
def Sup (S : Rset) : Prop := ∀ r, 512 ≤ r → S r = false
theorem backS_sup {S : Rset} (h : Sup S) (x : RIn) : Sup (backS S x) := fun r hr => by
  have q := h r hr
  unfold backS
  have hd : decide (r < 512) = false := by simp; omega
  split <;> simp [q, hd]
theorem backL_sup {S : Rset} (h : Sup S) : ∀ l, Sup (backL S l)
  | [] => h
  | x :: l => backS_sup (backL_sup h l) x
/-- Closed under the rules, block by block: what is wanted behind each block. -/
def Closed (bl : List Bk) (B : Nat → Rset) : Prop :=
  ∀ (b n : Nat) (u t : Bk), bl[b]? = some u → bl[n]? = some t → (n : Int) ∈ u.nx → Sub (backL (B n) t.ins) (B b)
/-- What is wanted behind a block. -/
noncomputable def wS (bl : List Bk) (b : Nat) : Rset := fun r => Dc (∀ B, Closed bl B → B b r = true)
theorem wS_least {bl : List Bk} {B : Nat → Rset} (h : Closed bl B) (b : Nat) : Sub (wS bl b) (B b) := fun r q => (of_Dc q) B h
theorem wS_closed (bl : List Bk) : Closed bl (wS bl) := fun b n u t hu ht hn r q => Dc_true (fun B hB => hB b n u t hu ht hn r (backL_mono (wS_least hB n) t.ins r q))
theorem wS_sup (bl : List Bk) (b : Nat) : Sup (wS bl b) := fun r hr => by
  refine Dc_false (fun h => ?_)
  have := h (fun _ s => decide (s < 512)) (fun b n u t _ _ _ s q => by
    have e := backL_sup (S := fun s => decide (s < 512)) (fun r hr => by simp; omega) t.ins s
    by_cases hs : s < 512
    · simpa using hs
    · rw [e (by omega)] at q; cases q)
  simp at this
  omega
theorem wS_eq {bl : List Bk} {B : Nat → Rset} (h1 : ∀ b, Sub (B b) (wS bl b)) (h2 : Closed bl B) (b : Nat) : B b = wS bl b := (h1 b).anti (wS_least h2 b)
/-- What is kept of a block. -/
def kepL (S : Rset) : List RIn → List RIn
  | [] => []
  | x :: l => if idle (backL S l) x = true then kepL S l else x :: kepL S l
noncomputable def kepB (bl : List Bk) (b : Nat) (u : Bk) : Bk := ⟨u.pc, kepL (wS bl b) u.ins, u.nx⟩
noncomputable def kepC (bl : List Bk) : List Bk := bl.mapIdx (kepB bl)
theorem kepL_drop (S : Rset) (l : List RIn) {i : Nat} {x : RIn} (h : l[i]? = some x) : kepL S (l.drop i) = if idle (backL S (l.drop (i + 1))) x = true then kepL S (l.drop (i + 1)) else x :: kepL S (l.drop (i + 1)) := by
  obtain ⟨hi, rfl⟩ := List.getElem?_eq_some_iff.1 h
  rw [List.drop_eq_getElem_cons hi]
  rfl
theorem kepL_mem {S : Rset} : ∀ {l : List RIn} {x : RIn}, x ∈ kepL S l → x ∈ l
  | [], x, h => by simp [kepL] at h
  | y :: l, x, h => by
    unfold kepL at h
    split at h
    · exact List.mem_cons_of_mem _ (kepL_mem h)
    · rcases List.mem_cons.1 h with rfl | h
      · exact List.mem_cons_self
      · exact List.mem_cons_of_mem _ (kepL_mem h)
theorem kepL_len (S : Rset) : ∀ l : List RIn, (kepL S l).length ≤ l.length
  | [] => by simp [kepL]
  | y :: l => by
    have := kepL_len S l
    unfold kepL
    split <;> simp <;> omega
/-- One rule of the document's. -/
def ruleS (S : Rset) (x : RIn) (r : Nat) : Bool := (askE x r && (!quiet x || inS S x.dst)) || (S r && decide (x.dst ≠ (r : Int)))
theorem rule_back (S : Rset) (x : RIn) {r : Nat} (hr : r < 512) : ruleS S x r = backS S x r := by
  unfold ruleS backS
  by_cases i : idle S x = true
  · rw [if_pos i]
    simp only [idle, Bool.and_eq_true, Bool.not_eq_true'] at i
    rw [i.1, i.2]
    simp only [Bool.not_true, Bool.or_self, Bool.and_false, Bool.false_or]
    by_cases e : x.dst = (r : Int)
    · have := inS_self S e
      rw [i.2] at this
      rw [← this]
      rfl
    · simp [e]
  · rw [if_neg i]
    have h1 : decide (r < 512) = true := by simpa using hr
    have h2 : (!quiet x || inS S x.dst) = true := by
      cases hq : quiet x <;> cases hi : inS S x.dst <;> simp_all [idle]
    rw [h1, h2]
    simp
/-- What nothing asks for is wanted nowhere. -/
theorem backL_asked {S : Rset} {l : List RIn} {r : Nat} (h : backL S l r = true) : S r = true ∨ ∃ x ∈ l, askE x r = true := by
  induction l with
  | nil => exact .inl h
  | cons x l ih =>
    rw [backL_cons] at h
    unfold backS at h
    split at h
    · rcases ih h with q | ⟨y, hy, q⟩
      · exact .inl q
      · exact .inr ⟨y, List.mem_cons_of_mem _ hy, q⟩
    · simp only [Bool.or_eq_true, Bool.and_eq_true, decide_eq_true_eq] at h
      rcases h with q | q
      · exact .inr ⟨x, List.mem_cons_self, q.2⟩
      · rcases ih q.1 with q | ⟨y, hy, q⟩
        · exact .inl q
        · exact .inr ⟨y, List.mem_cons_of_mem _ hy, q⟩
/-- The table of the document: block, place, register. -/
structure TSnd (bl : List Bk) (regs : Nat → Prop) (T : Nat → Nat → Rset) : Prop where
  snd : ∀ (b : Nat) (u : Bk), bl[b]? = some u → ∀ i, i ≤ u.ins.length → Sub (T b i) (backL (wS bl b) (u.ins.drop i))
  reg : ∀ b i r, T b i r = true → regs r
/-- Nothing more follows. -/
def TFix (bl : List Bk) (regs : Nat → Prop) (T : Nat → Nat → Rset) : Prop :=
  ∀ (b : Nat) (u : Bk), bl[b]? = some u → ∀ r, regs r → (∀ (n : Nat) (t : Bk), (n : Int) ∈ u.nx → bl[n]? = some t → T n 0 r = true → T b u.ins.length r = true) ∧
    ∀ (i : Nat) (x : RIn), u.ins[i]? = some x → ruleS (T b (i + 1)) x r = true → T b i r = true
def isReg (bl : List Bk) (r : Nat) : Prop := r < 512 ∧ ∃ u ∈ bl, ∃ x ∈ u.ins, askE x r = true
theorem table_eq {bl : List Bk} {T : Nat → Nat → Rset} (h : TSnd bl (isReg bl) T) (hf : TFix bl (isReg bl) T) (b : Nat) (u : Bk) (hu : bl[b]? = some u) (i : Nat) (hi : i ≤ u.ins.length) : T b i = backL (wS bl b) (u.ins.drop i) := by
  have key : ∀ (b : Nat) (u : Bk), bl[b]? = some u → ∀ k i, i + k = u.ins.length → Sub (backL (T b u.ins.length) (u.ins.drop i)) (T b i) := by
    intro b u hu k
    induction k with
    | zero =>
      intro i hi
      obtain rfl : i = u.ins.length := by omega
      rw [List.drop_length]
      exact Sub.refl _
    | succ k ih =>
      intro i hi r q
      have hx : u.ins[i]? = some (u.ins[i]'(by omega)) := List.getElem?_eq_getElem _
      have hreg : isReg bl r := by
        refine ⟨?_, ?_⟩
        · by_cases hr : r < 512
          · exact hr
          · have hs : Sup (T b u.ins.length) := fun r hr => by
              cases e : T b u.ins.length r with
              | false => rfl
              | true => have := (h.reg b _ r e).1; omega
            rw [backL_sup hs _ r (by omega)] at q
            cases q
        · rcases backL_asked q with q | ⟨y, hy, q⟩
          · exact (h.reg b _ r q).2
          · exact ⟨u, List.mem_of_getElem? hu, y, List.mem_of_mem_drop hy, q⟩
      refine (hf b u hu r hreg).2 i _ hx ?_
      rw [rule_back _ _ hreg.1]
      rw [backL_drop _ _ hx] at q
      exact backS_mono (ih (i + 1) (by omega)) _ r q
  have hclosed : Closed bl (fun b => match bl[b]? with | some u => T b u.ins.length | none => fun _ => false) := by
    intro b n v t hv ht hn r q
    simp only [hv, ht] at q ⊢
    have q2 := key n t ht t.ins.length 0 (by omega) r (by simpa using q)
    exact (hf b v hv r (h.reg n 0 r q2)).1 n t hn ht q2
  refine (h.snd b u hu i hi).anti ?_
  have hs := key b u hu (u.ins.length - i) i (by omega)
  refine (backL_mono ?_ _).trans hs
  have := wS_least hclosed b
  simpa only [hu] using this
/-- The worklist: what is known so far, what is still to be looked at. -/
structure WI (bl : List Bk) (B : Nat → Rset) (work : List Nat) (wt : Nat → Bool) : Prop where
  snd : ∀ b, Sub (B b) (wS bl b)
  cls : ∀ (b n : Nat) (u t : Bk), bl[b]? = some u → bl[n]? = some t → (n : Int) ∈ u.nx → wt n = true ∨ Sub (backL (B n) t.ins) (B b)
  wk : ∀ n, wt n = true → n ∈ work
  rng : ∀ n ∈ work, n < bl.length
theorem WI.done {bl : List Bk} {B : Nat → Rset} {wt : Nat → Bool} (h : WI bl B [] wt) (b : Nat) : B b = wS bl b :=
  wS_eq h.snd (fun b n u t hu ht hn => (h.cls b n u t hu ht hn).resolve_left (fun q => by have := h.wk n q; simp at this)) b
def updN {α : Type} (f : Nat → α) (k : Nat) (x : α) : Nat → α := fun j => if j = k then x else f j
theorem updN_same {α : Type} (f : Nat → α) (k : Nat) (x : α) : updN f k x k = x := by simp [updN]
theorem updN_ne {α : Type} (f : Nat → α) {k j : Nat} (x : α) (h : j ≠ k) : updN f k x j = f j := by simp [updN, h]
/-- While those that lead to block k are gone through: the first j of them are done. -/
structure WJ (bl : List Bk) (k : Nat) (ah : Rset) (done : List Nat) (B : Nat → Rset) (work : List Nat) (wt : Nat → Bool) : Prop where
  snd : ∀ b, Sub (B b) (wS bl b)
  ahs : ∀ (b : Nat) (u : Bk), bl[b]? = some u → (k : Int) ∈ u.nx → Sub ah (wS bl b)
  cls : ∀ (b n : Nat) (u t : Bk), n ≠ k → bl[b]? = some u → bl[n]? = some t → (n : Int) ∈ u.nx → wt n = true ∨ Sub (backL (B n) t.ins) (B b)
  own : wt k = true ∨ ∀ t, bl[k]? = some t → backL (B k) t.ins = ah
  dn : ∀ b ∈ done, Sub ah (B b)
  wk : ∀ n, wt n = true → n ∈ work
  rng : ∀ n ∈ work, n < bl.length
theorem WI.pop {bl : List Bk} {B : Nat → Rset} {work : List Nat} {wt : Nat → Bool} {k : Nat} {t : Bk} (h : WI bl B (k :: work) wt) (ht : bl[k]? = some t) : WJ bl k (backL (B k) t.ins) [] B work (updN wt k false) := by
  refine ⟨h.snd, fun b u hu hn => ?_, fun b n u t' hnk hu ht' hn => ?_, .inr (fun t' ht' => ?_), fun b hb => by simp at hb, fun n hn => ?_, fun n hn => h.rng n (List.mem_cons_of_mem _ hn)⟩
  · exact (backL_mono (h.snd k) t.ins).trans (wS_closed bl b k u t hu ht hn)
  · rw [updN_ne _ _ hnk]
    exact h.cls b n u t' hu ht' hn
  · rw [ht] at ht'; cases ht'; rfl
  · by_cases e : n = k
    · subst e; rw [updN_same] at hn; cases hn
    · rw [updN_ne _ _ e] at hn
      rcases List.mem_cons.1 (h.wk n hn) with q | q
      · exact absurd q e
      · exact q
def orS (S T : Rset) : Rset := fun r => S r || T r
theorem orS_l (S T : Rset) : Sub S (orS S T) := fun r h => by simp [orS, h]
theorem orS_r (S T : Rset) : Sub T (orS S T) := fun r h => by simp [orS, h]
theorem orS_le {S T U : Rset} (h : Sub S U) (k : Sub T U) : Sub (orS S T) U := fun r q => by
  simp only [orS, Bool.or_eq_true] at q
  rcases q with q | q
  · exact h r q
  · exact k r q
section
variable {bl : List Bk} {k : Nat} {ah : Rset} {dn : List Nat} {B : Nat → Rset} {work : List Nat} {wt : Nat → Bool}
/-- Nothing new. -/
theorem WJ.same (h : WJ bl k ah dn B work wt) {f : Nat} (hs : orS (B f) ah = B f) : WJ bl k ah (dn ++ [f]) B work wt :=
  ⟨h.snd, h.ahs, h.cls, h.own, fun b hb => by
    rcases List.mem_append.1 hb with q | q
    · exact h.dn b q
    · obtain rfl : b = f := by simpa using q
      rw [← hs]; exact orS_r _ _, h.wk, h.rng⟩
/-- Something new at f. -/
theorem WJ.more (h : WJ bl k ah dn B work wt) {f : Nat} {u : Bk} (hu : bl[f]? = some u) (hf : (k : Int) ∈ u.nx) {work' : List Nat} (hw : ∀ n ∈ work', n ∈ work ∨ n = f) (hw1 : ∀ n ∈ work, n ∈ work') (hw2 : f ∈ work') : WJ bl k ah (dn ++ [f]) (updN B f (orS (B f) ah)) work' (updN wt f true) := by
  have hfl := (List.getElem?_eq_some_iff.1 hu).1
  have hmono : ∀ b, Sub (B b) (updN B f (orS (B f) ah) b) := fun b => by
    by_cases e : b = f
    · subst e; rw [updN_same]; exact orS_l _ _
    · rw [updN_ne _ _ e]; exact Sub.refl _
  refine ⟨fun b => ?_, h.ahs, fun b n u' t hnk hu' ht hn => ?_, ?_, fun b hb => ?_, fun n hn => ?_, fun n hn => ?_⟩
  · by_cases e : b = f
    · subst e; rw [updN_same]; exact orS_le (h.snd b) (h.ahs b u hu hf)
    · rw [updN_ne _ _ e]; exact h.snd b
  · by_cases e : n = f
    · exact .inl (by rw [e, updN_same])
    · rw [updN_ne _ _ e, updN_ne _ _ e]
      rcases h.cls b n u' t hnk hu' ht hn with q | q
      · exact .inl q
      · exact .inr (q.trans (hmono b))
  · by_cases e : k = f
    · exact .inl (by rw [e, updN_same])
    · rw [updN_ne _ _ e]
      rcases h.own with q | q
      · exact .inl q
      · exact .inr (fun t ht => by rw [updN_ne _ _ e]; exact q t ht)
  · rcases List.mem_append.1 hb with q | q
    · exact (h.dn b q).trans (hmono b)
    · obtain rfl : b = f := by simpa using q
      rw [updN_same]; exact orS_r _ _
  · by_cases e : n = f
    · subst e; exact hw2
    · rw [updN_ne _ _ e] at hn
      exact hw1 n (h.wk n hn)
  · rcases hw n hn with q | rfl
    · exact h.rng n q
    · exact hfl
theorem WJ.close (h : WJ bl k ah dn B work wt) (hd : ∀ (b : Nat) (u : Bk), bl[b]? = some u → (k : Int) ∈ u.nx → b ∈ dn) : WI bl B work wt := by
  refine ⟨h.snd, fun b n u t hu ht hn => ?_, h.wk, h.rng⟩
  by_cases e : n = k
  · subst e
    rcases h.own with q | q
    · exact .inl q
    · exact .inr (by rw [q t ht]; exact h.dn b (hd b u hu hn))
  · exact h.cls b n u t e hu ht hn
end
/-- How much is still to come. -/
def dfc (S : Rset) : Nat := ((List.range 512).filter (fun r => !S r)).length
theorem filt_le {α : Type} (p q : α → Bool) (h : ∀ x, p x = true → q x = true) : ∀ l : List α, (l.filter p).length ≤ (l.filter q).length
  | [] => by simp
  | x :: l => by
    have := filt_le p q h l
    have hx := h x
    cases hp : p x <;> cases hq : q x <;> simp_all <;> omega
theorem filt_lt {α : Type} (p q : α → Bool) (h : ∀ x, p x = true → q x = true) : ∀ {l : List α} {y : α}, y ∈ l → p y = false → q y = true → (l.filter p).length < (l.filter q).length
  | [], y, hy, _, _ => by simp at hy
  | x :: l, y, hy, h1, h2 => by
    have h3 := filt_le p q h l
    rcases List.mem_cons.1 hy with rfl | hy
    · simp [h1, h2]; omega
    · have := filt_lt p q h hy h1 h2
      have hx := h x
      cases hp : p x <;> cases hq : q x <;> simp_all <;> omega
theorem dfc_lt {S T : Rset} (h : Sub S T) (hT : Sup T) (hne : S ≠ T) : dfc T < dfc S := by
  obtain ⟨r, hr⟩ : ∃ r, S r ≠ T r := Classical.byContradiction (fun q => hne (funext (fun r => Classical.byContradiction (fun e => q ⟨r, e⟩))))
  have hS : S r = false := by
    cases e : S r with
    | false => rfl
    | true => rw [e, h r e] at hr; exact absurd rfl hr
  have hTr : T r = true := by
    cases e : T r with
    | true => rfl
    | false => rw [hS, e] at hr; exact absurd rfl hr
  have hlt : r < 512 := by
    by_cases q : r < 512
    · exact q
    · rw [hT r (by omega)] at hTr; cases hTr
  refine filt_lt _ _ (fun x hx => ?_) (y := r) (by simpa using hlt) (by simp [hTr]) (by simp [hS])
  cases e : S x with
  | false => rfl
  | true => simp [h x e] at hx
theorem dfc_le (S : Rset) : dfc S ≤ 512 := by
  unfold dfc
  exact Nat.le_trans (List.length_filter_le _ _) (by simp)
def sumN (L : Nat) (f : Nat → Nat) : Nat := ((List.range L).map f).sum
theorem sumN_succ (L : Nat) (f : Nat → Nat) : sumN (L + 1) f = sumN L f + f L := by simp [sumN, List.range_succ]
theorem sumN_le {L c : Nat} {f : Nat → Nat} (h : ∀ i, f i ≤ c) : sumN L f ≤ L * c := by
  induction L with
  | zero => simp [sumN]
  | succ L ih => rw [sumN_succ, Nat.add_mul]; have := h L; omega
theorem sumN_congr {L : Nat} {f g : Nat → Nat} (h : ∀ i, i < L → f i = g i) : sumN L f = sumN L g := by
  induction L with
  | zero => rfl
  | succ L ih => rw [sumN_succ, sumN_succ, ih (fun i hi => h i (by omega)), h L (by omega)]
theorem sumN_upd {L k : Nat} {f g : Nat → Nat} (hk : k < L) (h : ∀ i, i ≠ k → f i = g i) (hlt : f k < g k) : sumN L f + 1 ≤ sumN L g := by
  induction L with
  | zero => omega
  | succ L ih =>
    rw [sumN_succ, sumN_succ]
    by_cases e : k = L
    · subst e
      have := sumN_congr (L := k) (f := f) (g := g) (fun i hi => h i (by omega))
      omega
    · have := ih (by omega)
      have := h L (fun q => e q.symm)
      omega
def muW (L : Nat) (B : Nat → Rset) (work : Nat) : Nat := 2 * sumN L (fun b => dfc (B b)) + work
theorem muW_up {L f : Nat} {B : Nat → Rset} {ah : Rset} {work : Nat} (hf : f < L) (hT : Sup (orS (B f) ah)) (hne : orS (B f) ah ≠ B f) : muW L (updN B f (orS (B f) ah)) (work + 1) < muW L B work := by
  have h1 : dfc (orS (B f) ah) < dfc (B f) := dfc_lt (orS_l _ _) hT (fun e => hne e.symm)
  have := sumN_upd (L := L) (k := f) (f := fun b => dfc (updN B f (orS (B f) ah) b)) (g := fun b => dfc (B b)) hf (fun i hi => by simp [updN, hi]) (by simpa [updN] using h1)
  unfold muW
  omega
theorem muW_bound (L : Nat) (B : Nat → Rset) (work : Nat) : muW L B work ≤ 1024 * L + work := by
  have := sumN_le (L := L) (c := 512) (f := fun b => dfc (B b)) (fun i => dfc_le _)
  unfold muW
  omega
end Go.Proofs.YtpbdmbmafjkinaaDoor
