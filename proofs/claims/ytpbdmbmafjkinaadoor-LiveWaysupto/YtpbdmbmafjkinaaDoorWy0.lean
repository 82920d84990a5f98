/-
  Ways: is a register asked for on some way, ahead of one that writes it?
-/
import Derived.Test.YtpbdmbmafjkinaaDoorTw1
namespace Go.Proofs.YtpbdmbmafjkinaaDoor
set_option linter.unusedVariables false
set_option linter.unusedSimpArgs false
/-- What a list of instructions does to a register: 1: asks, 2: writes it first, 0: neither. -/
def al (r : Nat) : List RIn → Nat
  | [] => 0
  | x :: l => if askE x r = true then 1 else if x.dst = (r : Int) then 2 else al r l
theorem al_one {S : Rset} {r : Nat} (hr : r < 512) : ∀ {l : List RIn}, kepL S l = l → al r l = 1 → backL S l r = true
  | [], _, h => by simp [al] at h
  | x :: l, hk, h => by
    have hn : ¬ idle (backL S l) x = true := fun q => by
      rw [kepL, if_pos q] at hk
      have := congrArg List.length hk
      have := kepL_len S l
      simp at *
      omega
    have hk2 : kepL S l = l := by
      rw [kepL, if_neg hn] at hk
      exact (List.cons.inj hk).2
    rw [backL_cons]
    unfold backS
    rw [if_neg hn]
    rw [al] at h
    by_cases q : askE x r = true
    · simp [q, hr]
    · rw [if_neg q] at h
      by_cases d : x.dst = (r : Int)
      · rw [if_pos d] at h; cases h
      · rw [if_neg d] at h
        simp [al_one hr hk2 h, d]
theorem al_two {S : Rset} {r : Nat} : ∀ {l : List RIn}, al r l = 2 → backL S l r = false
  | [], h => by simp [al] at h
  | x :: l, h => by
    rw [backL_cons]
    rw [al] at h
    by_cases q : askE x r = true
    · rw [if_pos q] at h; cases h
    · have q' : askE x r = false := by simpa using q
      rw [if_neg q] at h
      by_cases d : x.dst = (r : Int)
      · unfold backS
        by_cases i : idle (backL S l) x = true
        · rw [if_pos i]
          simp only [idle, Bool.and_eq_true, Bool.not_eq_true'] at i
          rw [← inS_self (backL S l) d]
          exact i.2
        · rw [if_neg i]; simp [q', d]
      · rw [if_neg d] at h
        have ih := al_two (S := S) h
        unfold backS
        split <;> simp [ih, q']
theorem al_zero {S : Rset} {r : Nat} : ∀ {l : List RIn}, al r l = 0 → backL S l r = S r
  | [], h => rfl
  | x :: l, h => by
    rw [backL_cons]
    rw [al] at h
    by_cases q : askE x r = true
    · rw [if_pos q] at h; cases h
    · have q' : askE x r = false := by simpa using q
      rw [if_neg q] at h
      by_cases d : x.dst = (r : Int)
      · rw [if_pos d] at h; cases h
      · rw [if_neg d] at h
        have ih := al_zero (S := S) h
        unfold backS
        split <;> simp [ih, q', d]
theorem al_le (r : Nat) : ∀ l, al r l ≤ 2
  | [] => by simp [al]
  | x :: l => by
    rw [al]
    split
    · omega
    · split
      · omega
      · exact al_le r l
/-- What a block does to a register from a place on, of what stays. -/
noncomputable def alB (bl : List Bk) (b : Nat) (u : Bk) (i r : Nat) : Nat := al r (kepL (wS bl b) (u.ins.drop i))
theorem alB_one {bl : List Bk} {b : Nat} {u : Bk} {i r : Nat} (hr : r < 512) (h : alB bl b u i r = 1) : backL (wS bl b) (u.ins.drop i) r = true := by
  have q := al_one hr (kepL_kep _ _) h
  rwa [backL_kep (Sub.refl _)] at q
theorem alB_two {bl : List Bk} {b : Nat} {u : Bk} {i r : Nat} {S : Rset} (hs : Sub S (wS bl b)) (h : alB bl b u i r = 2) : backL S (u.ins.drop i) r = false := by
  have q := al_two (S := S) h
  rwa [backL_kep hs] at q
theorem alB_zero {bl : List Bk} {b : Nat} {u : Bk} {i r : Nat} {S : Rset} (hs : Sub S (wS bl b)) (h : alB bl b u i r = 0) : backL S (u.ins.drop i) r = S r := by
  have q := al_zero (S := S) h
  rwa [backL_kep hs] at q
theorem alB_gone {bl : List Bk} {b : Nat} {u : Bk} {i r : Nat} {x : RIn} (hx : u.ins[i]? = some x) (hg : gone (wS bl b) u.ins i = true) : alB bl b u i r = alB bl b u (i + 1) r := by
  unfold alB
  rw [gone_at _ hx] at hg
  rw [kepL_drop _ _ hx, if_pos hg]
theorem alB_stay {bl : List Bk} {b : Nat} {u : Bk} {i r : Nat} {x : RIn} (hx : u.ins[i]? = some x) (hg : gone (wS bl b) u.ins i = false) : alB bl b u i r = if askE x r = true then 1 else if x.dst = (r : Int) then 2 else alB bl b u (i + 1) r := by
  unfold alB
  rw [gone_at _ hx] at hg
  rw [kepL_drop _ _ hx, if_neg (by rw [hg]; exact Bool.false_ne_true)]
  rfl
theorem alB_end {bl : List Bk} {b : Nat} {u : Bk} {i r : Nat} (h : u.ins.length ≤ i) : alB bl b u i r = 0 := by
  unfold alB
  rw [List.drop_eq_nil_of_le h]
  rfl
/-- The search: st: what is asked at its start; the first k of work are done, of the next one the first j ways. -/
structure MS (bl : List Bk) (r : Nat) (st : Bool) (was : Nat → Bool) (work : List Nat) (k : Nat) (cur : List Int) : Prop where
  rng : ∀ n ∈ work, n < bl.length
  snd : ∀ n ∈ work, wS bl n r = true → st = true
  hd : ∀ b0, work[0]? = some b0 → st = wS bl b0 r
  wk : ∀ (n : Nat) (t : Bk), was n = true → bl[n]? = some t → alB bl n t 0 r ≠ 1 ∧ (alB bl n t 0 r = 0 → n ∈ work)
  dn : ∀ (i n : Nat) (b : Nat) (u : Bk), i < k → work[i]? = some b → bl[b]? = some u → (n : Int) ∈ u.nx → n < bl.length → was n = true
  cr : ∀ n : Nat, (n : Int) ∈ cur → n < bl.length → was n = true
theorem MS.start {bl : List Bk} {b r i : Nat} {u : Bk} (hb : b < bl.length) (h : alB bl b u i r = 0) : MS bl r (backL (wS bl b) (u.ins.drop i) r) (fun _ => false) [b] 0 [] := by
  have e := alB_zero (Sub.refl (wS bl b)) h
  refine ⟨fun n hn => ?_, fun n hn q => ?_, fun b0 q => ?_, fun n t q => (by cases q), fun i n b u hi => (by omega), fun n q => (by cases q)⟩
  · obtain rfl : n = b := by simpa using hn
    exact hb
  · obtain rfl : n = b := by simpa using hn
    rw [e, q]
  · obtain rfl : b = b0 := by simpa using q
    exact e
section
variable {bl : List Bk} {r : Nat} {st : Bool} {was : Nat → Bool} {work : List Nat} {k : Nat} {cur : List Int}
/-- It is asked for on a way. -/
theorem MS.yes (h : MS bl r st was work k cur) (hr : r < 512) {b n : Nat} {u t : Bk} (hw : work[k]? = some b) (hu : bl[b]? = some u) (hn : (n : Int) ∈ u.nx) (ht : bl[n]? = some t) (ha : alB bl n t 0 r = 1) : st = true := by
  have q := alB_one hr ha
  rw [List.drop_zero] at q
  exact h.snd b (List.mem_of_getElem? hw) (wS_closed bl b n u t hu ht hn r q)
/-- A way that leads nowhere, or where the search was. -/
theorem MS.skip (h : MS bl r st was work k cur) {z : Int} (hz : ∀ n : Nat, z = (n : Int) → n < bl.length → was n = true) : MS bl r st was work k (cur ++ [z]) :=
  ⟨h.rng, h.snd, h.hd, h.wk, h.dn, fun n hn hb => by
    rcases List.mem_append.1 hn with q | q
    · exact h.cr n q hb
    · exact hz n (by simpa using q : (n : Int) = z).symm hb⟩
/-- One that writes first. -/
theorem MS.two (h : MS bl r st was work k cur) {n : Nat} {t : Bk} (ht : bl[n]? = some t) (ha : alB bl n t 0 r = 2) : MS bl r st (updN was n true) work k (cur ++ [(n : Int)]) := by
  have hm : ∀ m, was m = true → updN was n true m = true := fun m q => by
    by_cases e : m = n
    · subst e; rw [updN_same]
    · rw [updN_ne _ _ e]; exact q
  refine ⟨h.rng, h.snd, h.hd, fun m t' q ht' => ?_, fun i m b u hi hw hu hn hb => hm m (h.dn i m b u hi hw hu hn hb), fun m hn hb => ?_⟩
  · by_cases e : m = n
    · subst e
      rw [ht] at ht'; cases ht'
      rw [ha]
      exact ⟨by omega, fun q => by omega⟩
    · rw [updN_ne _ _ e] at q
      exact h.wk m t' q ht'
  · rcases List.mem_append.1 hn with q | q
    · exact hm m (h.cr m q hb)
    · obtain rfl : m = n := by have : (m : Int) = (n : Int) := by simpa using q
                               omega
      exact updN_same _ _ _
/-- One that does neither. -/
theorem MS.zero (h : MS bl r st was work k cur) {b n : Nat} {u t : Bk} (hw : work[k]? = some b) (hu : bl[b]? = some u) (hn : (n : Int) ∈ u.nx) (ht : bl[n]? = some t) (ha : alB bl n t 0 r = 0) : MS bl r st (updN was n true) (work ++ [n]) k (cur ++ [(n : Int)]) := by
  have hk := (List.getElem?_eq_some_iff.1 hw).1
  have hm : ∀ m, was m = true → updN was n true m = true := fun m q => by
    by_cases e : m = n
    · subst e; rw [updN_same]
    · rw [updN_ne _ _ e]; exact q
  refine ⟨fun m q => ?_, fun m q1 q2 => ?_, fun b0 q => ?_, fun m t' q ht' => ?_, fun i m b u hi hw hu hn hb => ?_, fun m hn hb => ?_⟩
  · rcases List.mem_append.1 q with q | q
    · exact h.rng m q
    · obtain rfl : m = n := by simpa using q
      exact (List.getElem?_eq_some_iff.1 ht).1
  · rcases List.mem_append.1 q1 with q | q
    · exact h.snd m q q2
    · obtain rfl : m = n := by simpa using q
      refine h.snd b (List.mem_of_getElem? hw) (wS_closed bl b m u t hu ht hn r ?_)
      have e := alB_zero (Sub.refl (wS bl m)) ha
      rw [List.drop_zero] at e
      rw [e]; exact q2
  · rw [List.getElem?_append_left (by omega)] at q
    exact h.hd b0 q
  · by_cases e : m = n
    · subst e
      rw [ht] at ht'; cases ht'
      exact ⟨by omega, fun _ => by simp⟩
    · rw [updN_ne _ _ e] at q
      exact ⟨(h.wk m t' q ht').1, fun z => List.mem_append_left _ ((h.wk m t' q ht').2 z)⟩
  · rw [List.getElem?_append_left (by omega)] at hw
    exact hm m (h.dn i m b u hi hw hu hn hb)
  · rcases List.mem_append.1 hn with q | q
    · exact hm m (h.cr m q hb)
    · obtain rfl : m = n := by have : (m : Int) = (n : Int) := by simpa using q
                               omega
      exact updN_same _ _ _
/-- All ways of one are gone. -/
theorem MS.next (h : MS bl r st was work k cur) {b : Nat} {u : Bk} (hw : work[k]? = some b) (hu : bl[b]? = some u) (hc : cur = u.nx) : MS bl r st was work (k + 1) [] :=
  ⟨h.rng, h.snd, h.hd, h.wk, fun i n b' u' hi hw' hu' hn hb => by
    by_cases e : i = k
    · subst e
      rw [hw] at hw'; cases hw'
      rw [hu] at hu'; cases hu'
      exact h.cr n (by rw [hc]; exact hn) hb
    · exact h.dn i n b' u' (by omega) hw' hu' hn hb, fun n q => (by cases q)⟩
/-- Nothing asks. -/
theorem MS.no (h : MS bl r st was work k []) (hk : work.length ≤ k) (hne : work ≠ []) : st = false := by
  obtain ⟨b0, hb0⟩ : ∃ b0, work[0]? = some b0 := by
    cases work with
    | nil => exact absurd rfl hne
    | cons a l => exact ⟨a, rfl⟩
  rw [h.hd b0 hb0]
  have hc : Closed bl (fun b s => if s = r ∧ b ∈ work then false else wS bl b s) := by
    have hle : ∀ n, Sub (fun s => if s = r ∧ n ∈ work then false else wS bl n s) (wS bl n) := fun n s q => by
      simp only at q
      by_cases c : s = r ∧ n ∈ work
      · rw [if_pos c] at q; cases q
      · rw [if_neg c] at q; exact q
    intro b n u t hu ht hn s q
    have q2 := wS_closed bl b n u t hu ht hn s (backL_mono (hle n) t.ins s q)
    by_cases c : s = r ∧ b ∈ work
    · obtain ⟨rfl, hbw⟩ := c
      exfalso
      obtain ⟨i, hi, hib⟩ := List.getElem_of_mem hbw
      have hnl := (List.getElem?_eq_some_iff.1 ht).1
      have hwas := h.dn i n b u (by omega) (by rw [List.getElem?_eq_getElem hi, hib]) hu hn hnl
      obtain ⟨a1, a2⟩ := h.wk n t hwas ht
      have := al_le s (kepL (wS bl n) (t.ins.drop 0))
      have a3 : alB bl n t 0 s = 0 ∨ alB bl n t 0 s = 2 := by
        unfold alB at a1 ⊢
        omega
      rcases a3 with z | z
      · have e := alB_zero (hle n) z
        rw [List.drop_zero, q, if_pos ⟨rfl, a2 z⟩] at e
        cases e
      · have e := alB_two (hle n) z
        rw [List.drop_zero, q] at e
        cases e
    · show (if s = r ∧ b ∈ work then false else wS bl b s) = true
      rw [if_neg c]; exact q2
  have e := wS_least hc b0 r
  cases hq : wS bl b0 r with
  | false => rfl
  | true =>
    have := e hq
    rw [if_pos ⟨rfl, List.mem_of_getElem? hb0⟩] at this
    cases this
end
end Go.Proofs.YtpbdmbmafjkinaaDoor
