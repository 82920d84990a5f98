/-
  One call of an index, held against the row.
-/
import Derived.Test.YthmcalapofjmfaaState3
namespace Go.Proofs.Ythmcalapofjmfaa
open Go.RowKit Go.Maps
set_option linter.unusedVariables false
set_option linter.unusedSimpArgs false

theorem bool_eql (b c : Bool) (w : World) : (binOp .eql 4 (.bool b) (.bool c)).run Try.prog w = .ok (.bool (b == c)) w := by cases b <;> cases c <;> kernel_rfl
/-- The box of a call. -/
def boxO (g : OpD) : Obj := .cells #[.int .i64 g.on, .int .i64 g.kind, .int .i64 g.n, .string g.s, g.lv] 30
/-- What step answers. -/
def StepPost (w : World) (d : Dat) (k : Nat) (e : Ending) (w' : World) : Prop :=
  ∃ a n c v l, e = .returned (.tuple #[.slice a n c, .bool true]) ∧ l.length ≤ (d.rs k).length + 1 ∧ w'.cell? ⟨d.br, k, none⟩ = some (d.A k) ∧ w'.frozen? ⟨d.br, k, none⟩ = false ∧ SC w (d.put k (d.P k) (d.B k) v l (.slice a n c) l) (w'.setCell ⟨d.br, k, none⟩ (.slice a n c))
theorem StepPost.mk {w : World} {d : Dat} {k : Nat} {w' wr : World} {v : Value} {l : List ByteArray} {u : Value} (h : SC w d wr) (hk : k < 2) (hI : Ix w' (d.P k) (d.B k) v l) (s : IStep (d.P k) (d.B k) wr (d.V k) w' v) (hR : Rt w' u l)
    (hu : u.ownBlock = (d.A k).ownBlock ∨ ∀ x, u.ownBlock = some x → wr.heap.size ≤ x ∧ x < w'.heap.size) (hne : ∀ x, u.ownBlock = some x → v.ownBlock = some x → x < wr.heap.size) (hl : l.length ≤ (d.rs k).length + 1) :
    StepPost w d k (.returned (.tuple #[u, .bool true])) w' := by
  obtain ⟨c1, c2, c3⟩ := h.both hk hI s hR hu hne
  obtain ⟨a, c, e, _⟩ := hR
  rw [e] at c3 ⊢
  exact ⟨a, _, c, v, l, rfl, hl, c1, c2, c3⟩
/-- Where nothing turns. -/
theorem StepPost.quiet {w : World} {d : Dat} {k : Nat} {wr : World} (h : SC w d wr) (hk : k < 2) (e : d.rs k = d.dr k) : StepPost w d k (.returned (.tuple #[d.A k, .bool true])) wr :=
  StepPost.mk h hk (h.ix k hk) (IStep.refl _ _ _ _) (by rw [e]; exact h.ar k hk) (.inl rfl) (fun x hx hv => h.hi 5 k x (by rw [f5 hk]; exact hx)) (by omega)

set_option maxRecDepth 100000 in
set_option maxHeartbeats 1600000 in
theorem step0 {w wr : World} {d : Dat} (h : SC w d wr) {k : Nat} (hk : k < 2) (e : d.rs k = d.dr k) (hl : (d.rs k).length < 11999999999999) (on kind n : Int) (s : ByteArray) (la : Option Addr) (ln lc : Nat) (hs : s.size ≤ maxLen) :
    Calls Try.prog 17 #[.pointer (some ⟨d.P k, 0, none⟩), d.A k, .agg #[.int .i64 on, .int .i64 kind, .int .i64 n, .string s, .slice la ln lc], .int .i64 0] wr (StepPost w d k) := by
  have h1 := h.alloc (.cells #[.int .i64 on, .int .i64 kind, .int .i64 n, .string s, .slice la ln lc] 30)
  have HB1 : Below wr.heap.size wr (wr.alloc (.cells #[.int .i64 on, .int .i64 kind, .int .i64 n, .string s, .slice la ln lc] 30)) := (Below.refl _ _).alloc (Nat.le_refl _) _
  have hg := heap_alloc_new wr (.cells #[.int .i64 on, .int .i64 kind, .int .i64 n, .string s, .slice la ln lc] 30)
  have hc2 : (wr.alloc (.cells #[.int .i64 on, .int .i64 kind, .int .i64 n, .string s, .slice la ln lc] 30)).cell? ⟨wr.heap.size, 2, none⟩ = some (.int .i64 n) := by simp only [World.cell?, hg]; rfl
  have hc3 : (wr.alloc (.cells #[.int .i64 on, .int .i64 kind, .int .i64 n, .string s, .slice la ln lc] 30)).cell? ⟨wr.heap.size, 3, none⟩ = some (.string s) := by simp only [World.cell?, hg]; rfl
  have hgl : wr.heap.size < (wr.alloc (.cells #[.int .i64 on, .int .i64 kind, .int .i64 n, .string s, .slice la ln lc] 30)).heap.size := by simp
  obtain ⟨a, cap, eA, _⟩ := h1.ar k hk
  have HE := hide e
  have HNF : Hid (∀ x, wr.heap.size ≤ x → ¬ Foot (d.P k) (d.B k) (d.V k) x) := fun x hx hf => by have := (h.ix k hk).foot x hf; omega
  have H1 := hide h1
  have HB := hide HB1
  obtain ⟨wb, ewb⟩ : ∃ wb, Hid (wr.alloc (.cells #[.int .i64 on, .int .i64 kind, .int .i64 n, .string s, .slice la ln lc] 30) = wb) := ⟨_, rfl⟩
  obtain ⟨p, ep⟩ : ∃ p, Hid (d.P k = p) := ⟨_, rfl⟩
  obtain ⟨L, eL⟩ : ∃ L, Hid ((d.dr k).length = L) := ⟨_, rfl⟩
  have EA : Hid (d.A k = .slice a L cap) := by rw [← unhide eL]; exact eA
  have hx1 := hide (h1.ix k hk)
  have hr1 := hide (h1.ar k hk)
  rw [e, unhide eL] at hl
  rw [unhide ewb] at H1 HB hc2 hc3 hgl hx1 hr1
  rw [unhide ep] at hx1 HNF ⊢
  rw [unhide EA] at hr1 ⊢
  rw [e] at hx1
  clear h h1 HB1 hg eA e
  have HF1 := hide (radd_any (unhide hr1) s (by rw [unhide eL]; exact hl))
  obtain ⟨m, em⟩ : ∃ m, Hid (num (d.dr k) s = m) := ⟨_, rfl⟩
  rw [unhide em] at HF1
  go_enter Try.func17, Try.ntmps17
  go_wp2_with fail
  rw [unhide ewb]
  refine (unhide HF1).mono ?_
  rintro e w2 ⟨u, rfl, hRu, hB2, hu⟩
  have c3' : w2.cell? ⟨wr.heap.size, 3, none⟩ = some (.string s) := (hB2.cell (p := ⟨wr.heap.size, 3, none⟩) (by have := hgl; exact this)).trans hc3
  have hgl2 : wr.heap.size < w2.heap.size := Nat.lt_of_lt_of_le hgl hB2.size
  have HF2 := add_any ((unhide hx1).below hB2) s hs (by rw [unhide eL]; exact hl)
  rw [unhide em] at HF2
  have HF2 := hide HF2
  have HU := hide hu
  have HB2 := hide hB2
  have HRu := hide hRu
  clear hu hB2 hRu HF1
  go_wp2_with fail
  refine (unhide HF2).mono ?_
  rintro e w3 ⟨rfl, v', hI3, hS3⟩
  have hRu3 : Rt w3 u (ins (d.dr k) s) := (unhide HRu).keep hS3.fr.size (fun g hg => by
    refine hS3.fr.block g ?_ ?_
    · rcases unhide HU with q | q
      · have := (unhide H1).hi 5 k g (by rw [f5 hk, unhide EA]; exact q.symm.trans hg)
        exact Nat.lt_of_lt_of_le this (unhide HB2).size
      · exact (q g hg).2
    · intro hf
      rcases unhide HU with q | q
      · have e5 : fam d 5 k = some g := by rw [f5 hk, unhide EA]; exact q.symm.trans hg
        rcases hf with r | r | r
        · exact (unhide H1).ap 5 k 2 k g (by simp) e5 (by rw [f2 hk, r, unhide ep])
        · exact (unhide H1).ap 5 k 3 k g (by simp) e5 (by rw [f3 hk, r])
        · exact (unhide H1).ap 5 k 4 k g (by simp) e5 (by rw [f4 hk]; exact r)
      · have := (unhide hx1).foot g hf
        have := (q g hg).1
        omega)
  have hfin := StepPost.mk (unhide H1) hk (by rw [unhide ep]; exact hI3) (by rw [unhide ep]; exact IStep.after (unhide HB2) hS3) hRu3 (by
      rw [unhide EA]
      rcases unhide HU with q | q
      · exact .inl q
      · exact .inr fun x hx => ⟨(q x hx).1, Nat.lt_of_lt_of_le (q x hx).2 hS3.fr.size⟩) (fun x hx hv => by
      rcases unhide HU with q | q
      · exact (unhide H1).hi 5 k x (by rw [f5 hk, unhide EA]; exact q.symm.trans hx)
      · have hx2 := q x hx
        rcases hS3.row with r | r
        · exact (unhide H1).hi 4 k x (by rw [f4 hk]; exact r.symm.trans hv)
        · have := r x hv; omega) (by rw [unhide HE]; rcases @ins_length (d.dr k) s with r | r <;> omega)
  have HFIN := hide hfin
  clear hfin hRu3 hI3 hS3 HF2
  go_wp2
  go_ret2
  exact unhide HFIN
set_option maxRecDepth 100000 in
set_option maxHeartbeats 1600000 in
theorem step1 {w wr : World} {d : Dat} (h : SC w d wr) {k : Nat} (hk : k < 2) (e : d.rs k = d.dr k) (hl : (d.rs k).length < 11999999999999) (on kind n : Int) (s : ByteArray) (la : Option Addr) (ln lc : Nat) (hs : s.size ≤ maxLen) :
    Calls Try.prog 17 #[.pointer (some ⟨d.P k, 0, none⟩), d.A k, .agg #[.int .i64 on, .int .i64 kind, .int .i64 n, .string s, .slice la ln lc], .int .i64 1] wr (StepPost w d k) := by
  have h1 := h.alloc (.cells #[.int .i64 on, .int .i64 kind, .int .i64 n, .string s, .slice la ln lc] 30)
  have HB1 : Below wr.heap.size wr (wr.alloc (.cells #[.int .i64 on, .int .i64 kind, .int .i64 n, .string s, .slice la ln lc] 30)) := (Below.refl _ _).alloc (Nat.le_refl _) _
  have hg := heap_alloc_new wr (.cells #[.int .i64 on, .int .i64 kind, .int .i64 n, .string s, .slice la ln lc] 30)
  have hc2 : (wr.alloc (.cells #[.int .i64 on, .int .i64 kind, .int .i64 n, .string s, .slice la ln lc] 30)).cell? ⟨wr.heap.size, 2, none⟩ = some (.int .i64 n) := by simp only [World.cell?, hg]; rfl
  have hc3 : (wr.alloc (.cells #[.int .i64 on, .int .i64 kind, .int .i64 n, .string s, .slice la ln lc] 30)).cell? ⟨wr.heap.size, 3, none⟩ = some (.string s) := by simp only [World.cell?, hg]; rfl
  have hgl : wr.heap.size < (wr.alloc (.cells #[.int .i64 on, .int .i64 kind, .int .i64 n, .string s, .slice la ln lc] 30)).heap.size := by simp
  obtain ⟨a, cap, eA, _⟩ := h1.ar k hk
  have HE := hide e
  have HNF : Hid (∀ x, wr.heap.size ≤ x → ¬ Foot (d.P k) (d.B k) (d.V k) x) := fun x hx hf => by have := (h.ix k hk).foot x hf; omega
  have H1 := hide h1
  have HB := hide HB1
  obtain ⟨wb, ewb⟩ : ∃ wb, Hid (wr.alloc (.cells #[.int .i64 on, .int .i64 kind, .int .i64 n, .string s, .slice la ln lc] 30) = wb) := ⟨_, rfl⟩
  obtain ⟨p, ep⟩ : ∃ p, Hid (d.P k = p) := ⟨_, rfl⟩
  obtain ⟨L, eL⟩ : ∃ L, Hid ((d.dr k).length = L) := ⟨_, rfl⟩
  have EA : Hid (d.A k = .slice a L cap) := by rw [← unhide eL]; exact eA
  have hx1 := hide (h1.ix k hk)
  have hr1 := hide (h1.ar k hk)
  rw [e, unhide eL] at hl
  rw [unhide ewb] at H1 HB hc2 hc3 hgl hx1 hr1
  rw [unhide ep] at hx1 HNF ⊢
  rw [unhide EA] at hr1 ⊢
  rw [e] at hx1
  clear h h1 HB1 hg eA e
  have HF1 := hide (rfind_any (unhide hr1) s)
  have HF2 := hide (find_any (unhide hx1) s hs)
  have hbe := bool_eql
  obtain ⟨i, ei⟩ : ∃ i, Hid ((idx (d.dr k) s).getD 0 = i) := ⟨_, rfl⟩
  obtain ⟨t, et⟩ : ∃ t, Hid ((idx (d.dr k) s).isSome = t) := ⟨_, rfl⟩
  rw [unhide ei, unhide et] at HF1 HF2
  go_enter Try.func17, Try.ntmps17
  go_wp2_with fail
  rw [unhide ewb]
  refine (unhide HF1).mono ?_
  rintro e w2 ⟨rfl, hw⟩
  rw [hw]
  clear hw w2
  go_wp2_with fail
  refine (unhide HF2).mono ?_
  rintro e w2 ⟨rfl, hw⟩
  rw [hw]
  clear hw w2
  go_wp2
  go_ret2
  have := StepPost.quiet (unhide H1) hk (unhide HE)
  rw [unhide EA] at this
  exact this
set_option maxRecDepth 100000 in
set_option maxHeartbeats 1600000 in
theorem step2 {w wr : World} {d : Dat} (h : SC w d wr) {k : Nat} (hk : k < 2) (e : d.rs k = d.dr k) (hl : (d.rs k).length < 11999999999999) (on kind n : Int) (s : ByteArray) (la : Option Addr) (ln lc : Nat) (hs : s.size ≤ maxLen) :
    Calls Try.prog 17 #[.pointer (some ⟨d.P k, 0, none⟩), d.A k, .agg #[.int .i64 on, .int .i64 kind, .int .i64 n, .string s, .slice la ln lc], .int .i64 2] wr (StepPost w d k) := by
  have h1 := h.alloc (.cells #[.int .i64 on, .int .i64 kind, .int .i64 n, .string s, .slice la ln lc] 30)
  have HB1 : Below wr.heap.size wr (wr.alloc (.cells #[.int .i64 on, .int .i64 kind, .int .i64 n, .string s, .slice la ln lc] 30)) := (Below.refl _ _).alloc (Nat.le_refl _) _
  have hg := heap_alloc_new wr (.cells #[.int .i64 on, .int .i64 kind, .int .i64 n, .string s, .slice la ln lc] 30)
  have hc2 : (wr.alloc (.cells #[.int .i64 on, .int .i64 kind, .int .i64 n, .string s, .slice la ln lc] 30)).cell? ⟨wr.heap.size, 2, none⟩ = some (.int .i64 n) := by simp only [World.cell?, hg]; rfl
  have hc3 : (wr.alloc (.cells #[.int .i64 on, .int .i64 kind, .int .i64 n, .string s, .slice la ln lc] 30)).cell? ⟨wr.heap.size, 3, none⟩ = some (.string s) := by simp only [World.cell?, hg]; rfl
  have hgl : wr.heap.size < (wr.alloc (.cells #[.int .i64 on, .int .i64 kind, .int .i64 n, .string s, .slice la ln lc] 30)).heap.size := by simp
  obtain ⟨a, cap, eA, _⟩ := h1.ar k hk
  have HE := hide e
  have HNF : Hid (∀ x, wr.heap.size ≤ x → ¬ Foot (d.P k) (d.B k) (d.V k) x) := fun x hx hf => by have := (h.ix k hk).foot x hf; omega
  have H1 := hide h1
  have HB := hide HB1
  obtain ⟨wb, ewb⟩ : ∃ wb, Hid (wr.alloc (.cells #[.int .i64 on, .int .i64 kind, .int .i64 n, .string s, .slice la ln lc] 30) = wb) := ⟨_, rfl⟩
  obtain ⟨p, ep⟩ : ∃ p, Hid (d.P k = p) := ⟨_, rfl⟩
  obtain ⟨L, eL⟩ : ∃ L, Hid ((d.dr k).length = L) := ⟨_, rfl⟩
  have EA : Hid (d.A k = .slice a L cap) := by rw [← unhide eL]; exact eA
  have hx1 := hide (h1.ix k hk)
  have hr1 := hide (h1.ar k hk)
  rw [e, unhide eL] at hl
  rw [unhide ewb] at H1 HB hc2 hc3 hgl hx1 hr1
  rw [unhide ep] at hx1 HNF ⊢
  rw [unhide EA] at hr1 ⊢
  rw [e] at hx1
  clear h h1 HB1 hg eA e
  by_cases hn : n < 0 ∨ (L : Int) ≤ n
  · have HF1 := hide (rat_out (unhide hr1) n (by rw [unhide eL]; exact hn))
    have HF2 := hide (at_out (unhide hx1) n (by rw [unhide eL]; exact hn))
    have hbe := bool_eql
    go_enter Try.func17, Try.ntmps17
    go_wp2_with fail
    rw [unhide ewb]
    refine (unhide HF1).mono ?_
    rintro e w2 ⟨rfl, hw⟩
    rw [hw]
    clear hw w2
    go_wp2_with fail
    refine (unhide HF2).mono ?_
    rintro e w2 ⟨rfl, hw⟩
    rw [hw]
    clear hw w2
    go_wp2
    go_ret2
    have := StepPost.quiet (unhide H1) hk (unhide HE)
    rw [unhide EA] at this
    exact this
  · obtain ⟨i, rfl⟩ : ∃ i : Nat, n = (i : Int) := ⟨n.toNat, by omega⟩
    have hn : i < L := by omega
    have HF1 := hide (rat_in (unhide hr1) i (by rw [unhide eL]; exact hn) (by rw [unhide eL]; omega))
    have HF2 := hide (at_in (unhide hx1) i (by rw [unhide eL]; exact hn) (by rw [unhide eL]; omega))
    have hbe := bool_eql
    obtain ⟨t, et⟩ : ∃ t, Hid (tx (d.dr k) i = t) := ⟨_, rfl⟩
    rw [unhide et] at HF1 HF2
    go_enter Try.func17, Try.ntmps17
    go_wp2_with fail
    rw [unhide ewb]
    refine (unhide HF1).mono ?_
    rintro e w2 ⟨rfl, hw⟩
    rw [hw]
    clear hw w2
    go_wp2_with fail
    refine (unhide HF2).mono ?_
    rintro e w2 ⟨rfl, hw⟩
    rw [hw]
    clear hw w2
    go_wp2
    go_ret2
    have := StepPost.quiet (unhide H1) hk (unhide HE)
    rw [unhide EA] at this
    exact this
set_option maxRecDepth 100000 in
set_option maxHeartbeats 1600000 in
theorem step3 {w wr : World} {d : Dat} (h : SC w d wr) {k : Nat} (hk : k < 2) (e : d.rs k = d.dr k) (hl : (d.rs k).length < 11999999999999) (on kind n : Int) (s : ByteArray) (la : Option Addr) (ln lc : Nat) (hs : s.size ≤ maxLen) :
    Calls Try.prog 17 #[.pointer (some ⟨d.P k, 0, none⟩), d.A k, .agg #[.int .i64 on, .int .i64 kind, .int .i64 n, .string s, .slice la ln lc], .int .i64 3] wr (StepPost w d k) := by
  have h1 := h.alloc (.cells #[.int .i64 on, .int .i64 kind, .int .i64 n, .string s, .slice la ln lc] 30)
  have HB1 : Below wr.heap.size wr (wr.alloc (.cells #[.int .i64 on, .int .i64 kind, .int .i64 n, .string s, .slice la ln lc] 30)) := (Below.refl _ _).alloc (Nat.le_refl _) _
  have hg := heap_alloc_new wr (.cells #[.int .i64 on, .int .i64 kind, .int .i64 n, .string s, .slice la ln lc] 30)
  have hc2 : (wr.alloc (.cells #[.int .i64 on, .int .i64 kind, .int .i64 n, .string s, .slice la ln lc] 30)).cell? ⟨wr.heap.size, 2, none⟩ = some (.int .i64 n) := by simp only [World.cell?, hg]; rfl
  have hc3 : (wr.alloc (.cells #[.int .i64 on, .int .i64 kind, .int .i64 n, .string s, .slice la ln lc] 30)).cell? ⟨wr.heap.size, 3, none⟩ = some (.string s) := by simp only [World.cell?, hg]; rfl
  have hgl : wr.heap.size < (wr.alloc (.cells #[.int .i64 on, .int .i64 kind, .int .i64 n, .string s, .slice la ln lc] 30)).heap.size := by simp
  obtain ⟨a, cap, eA, _⟩ := h1.ar k hk
  have HE := hide e
  have HNF : Hid (∀ x, wr.heap.size ≤ x → ¬ Foot (d.P k) (d.B k) (d.V k) x) := fun x hx hf => by have := (h.ix k hk).foot x hf; omega
  have H1 := hide h1
  have HB := hide HB1
  obtain ⟨wb, ewb⟩ : ∃ wb, Hid (wr.alloc (.cells #[.int .i64 on, .int .i64 kind, .int .i64 n, .string s, .slice la ln lc] 30) = wb) := ⟨_, rfl⟩
  obtain ⟨p, ep⟩ : ∃ p, Hid (d.P k = p) := ⟨_, rfl⟩
  obtain ⟨L, eL⟩ : ∃ L, Hid ((d.dr k).length = L) := ⟨_, rfl⟩
  have EA : Hid (d.A k = .slice a L cap) := by rw [← unhide eL]; exact eA
  have hx1 := hide (h1.ix k hk)
  have hr1 := hide (h1.ar k hk)
  rw [e, unhide eL] at hl
  rw [unhide ewb] at H1 HB hc2 hc3 hgl hx1 hr1
  rw [unhide ep] at hx1 HNF ⊢
  rw [unhide EA] at hr1 ⊢
  rw [e] at hx1
  clear h h1 HB1 hg eA e
  have hL := len_any (unhide hx1)
  rw [unhide eL] at hL
  have HL := hide hL
  clear hL
  go_enter Try.func17, Try.ntmps17
  go_wp2_with fail
  rw [unhide ewb]
  refine (unhide HL).mono ?_
  rintro e w2 ⟨rfl, hw2⟩
  rw [hw2]
  clear hw2 w2
  go_wp2
  go_ret2
  have := StepPost.quiet (unhide H1) hk (unhide HE)
  rw [unhide EA] at this
  exact this
set_option maxRecDepth 100000 in
set_option maxHeartbeats 1600000 in
theorem step5 {w wr : World} {d : Dat} (h : SC w d wr) {k : Nat} (hk : k < 2) (e : d.rs k = d.dr k) (hl : (d.rs k).length < 11999999999999) (on kind n : Int) (s : ByteArray) (la : Option Addr) (ln lc : Nat) (hs : s.size ≤ maxLen) :
    Calls Try.prog 17 #[.pointer (some ⟨d.P k, 0, none⟩), d.A k, .agg #[.int .i64 on, .int .i64 kind, .int .i64 n, .string s, .slice la ln lc], .int .i64 5] wr (StepPost w d k) := by
  have h1 := h.alloc (.cells #[.int .i64 on, .int .i64 kind, .int .i64 n, .string s, .slice la ln lc] 30)
  have HB1 : Below wr.heap.size wr (wr.alloc (.cells #[.int .i64 on, .int .i64 kind, .int .i64 n, .string s, .slice la ln lc] 30)) := (Below.refl _ _).alloc (Nat.le_refl _) _
  have hg := heap_alloc_new wr (.cells #[.int .i64 on, .int .i64 kind, .int .i64 n, .string s, .slice la ln lc] 30)
  have hc2 : (wr.alloc (.cells #[.int .i64 on, .int .i64 kind, .int .i64 n, .string s, .slice la ln lc] 30)).cell? ⟨wr.heap.size, 2, none⟩ = some (.int .i64 n) := by simp only [World.cell?, hg]; rfl
  have hc3 : (wr.alloc (.cells #[.int .i64 on, .int .i64 kind, .int .i64 n, .string s, .slice la ln lc] 30)).cell? ⟨wr.heap.size, 3, none⟩ = some (.string s) := by simp only [World.cell?, hg]; rfl
  have hgl : wr.heap.size < (wr.alloc (.cells #[.int .i64 on, .int .i64 kind, .int .i64 n, .string s, .slice la ln lc] 30)).heap.size := by simp
  obtain ⟨a, cap, eA, _⟩ := h1.ar k hk
  have HE := hide e
  have HNF : Hid (∀ x, wr.heap.size ≤ x → ¬ Foot (d.P k) (d.B k) (d.V k) x) := fun x hx hf => by have := (h.ix k hk).foot x hf; omega
  have H1 := hide h1
  have HB := hide HB1
  obtain ⟨wb, ewb⟩ : ∃ wb, Hid (wr.alloc (.cells #[.int .i64 on, .int .i64 kind, .int .i64 n, .string s, .slice la ln lc] 30) = wb) := ⟨_, rfl⟩
  obtain ⟨p, ep⟩ : ∃ p, Hid (d.P k = p) := ⟨_, rfl⟩
  obtain ⟨L, eL⟩ : ∃ L, Hid ((d.dr k).length = L) := ⟨_, rfl⟩
  have EA : Hid (d.A k = .slice a L cap) := by rw [← unhide eL]; exact eA
  have hx1 := hide (h1.ix k hk)
  have hr1 := hide (h1.ar k hk)
  rw [e, unhide eL] at hl
  rw [unhide ewb] at H1 HB hc2 hc3 hgl hx1 hr1
  rw [unhide ep] at hx1 HNF ⊢
  rw [unhide EA] at hr1 ⊢
  rw [e] at hx1
  clear h h1 HB1 hg eA e
  have HF1 := hide (cut_any (unhide hx1) n (by rw [unhide eL]; omega))
  go_enter Try.func17, Try.ntmps17
  go_wp2_with fail
  rw [unhide ewb]
  refine (unhide HF1).mono ?_
  rintro e w2 ⟨rfl, v', hI2, hS2⟩
  have hC := (unhide H1).called hk (v' := v') (by rw [unhide ep]; exact hI2) (by rw [unhide ep]; exact hS2)
  have hR2 := hC.ar k hk
  have c2' : w2.cell? ⟨wr.heap.size, 2, none⟩ = some (.int .i64 n) := (hS2.fr.cell (a := ⟨wr.heap.size, 2, none⟩) hgl (fun hf => unhide HNF _ (Nat.le_refl _) hf)).trans hc2
  have hgl2 : wr.heap.size < w2.heap.size := Nat.lt_of_lt_of_le hgl hS2.fr.size
  have hR2' : Rt w2 (.slice a L cap) (d.dr k) := by have := hR2; rw [← unhide EA]; exact this
  have HF2 := hide (rcut_any hR2' n (by rw [unhide eL]; omega))
  have HI2 := hide hI2
  have HS2 := hide hS2
  clear hC hR2 hR2' hI2 hS2 HF1
  go_wp2_with fail
  refine (unhide HF2).mono ?_
  rintro e w3 ⟨u, rfl, hN⟩
  have hfin := StepPost.mk (unhide H1) hk (by rw [unhide ep]; exact (unhide HI2).below hN.2) (by rw [unhide ep]; exact IStep.ahead (unhide HS2) hN.2) hN.rt (.inr fun x hx => ⟨Nat.le_trans (unhide HS2).fr.size (hN.1.lt x hx).1, (hN.1.lt x hx).2⟩) (fun x hx hv => by
      have := (hN.1.lt x hx).1
      have := (unhide HI2).vlt x hv
      omega) (by rw [unhide HE, List.length_take]; omega)
  have HFIN := hide hfin
  clear hfin HF2 hN
  go_wp2
  go_ret2
  exact unhide HFIN
end Go.Proofs.Ythmcalapofjmfaa
