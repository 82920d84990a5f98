/-
  A stack (values): its calls.
-/
import Derived.Test.YtfcgpafjhifogaaStk0
namespace Go.Proofs.Ytfcgpafjhifogaa.kV
open Go.RowKit
set_option linter.unusedVariables false
set_option linter.unusedSimpArgs false
theorem infE : (Try.prog.info? 41).map (fun i => (i.zero, i.size, i.bytes)) = some (some (.agg #[.int .i64 0, .int .i64 0]), 2, 16) := by kernel_rfl
theorem zerE : ∀ k, ∀ u ∈ (Builtin.zeroCells (.agg #[.int .i64 0, .int .i64 0] : Value).cells k).toList, u.oneCell' = true := by
  intro k u hu
  unfold Builtin.zeroCells at hu
  simp [Value.cells] at hu
  obtain ⟨a, _, rfl⟩ := hu
  rcases (by omega : a % 2 = 0 ∨ a % 2 = 1) with q | q <;> simp [q] <;> rfl
set_option maxRecDepth 100000 in
set_option maxHeartbeats 1600000 in
theorem push_any {w : World} {p : Nat} {v lv : Value} {n m : Nat} {xs ys : List Value} (h : Sk w p 2 v n xs) (hx : Rx w 2 lv m ys) (h1 : ∀ u ∈ ys, u.oneCell' = true) (hN : n + m ≤ 8796093022207) :
    Calls Try.prog 31 #[.pointer (some ⟨p, 0, none⟩), lv] w fun e w' => e = .returned (.tuple #[]) ∧ ∃ v', Sk w' p 2 v' (n + m) (xs ++ ys) ∧ StS p w v w' v' := by
  obtain ⟨v', w1, hrun, hro, hg, hat⟩ := Ro.appX (P := Try.prog) 26 26 41 _ Try.underlying26 infE rfl (by decide) h.row hx h1 (by unfold maxLen; omega) (by omega)
  obtain ⟨⟨c1, f1⟩, hsk, hst⟩ := h.put ((Fr.refl _ w).grown hg (fun k e => .inr e)) hro (fun k hk => by
    rcases hat with q | q
    · exact .inl (q ▸ hk)
    · rw [q] at hk; cases hk; exact .inr (Nat.le_refl _)) (fun u hu => by
    rcases List.mem_append.1 hu with q | q
    · exact h.one u q
    · exact h1 u q)
  obtain ⟨c0, f0⟩ := h.cell
  obtain ⟨sa, sc, esl⟩ : ∃ sa sc, v' = .slice sa (n + m) sc := by obtain ⟨a, c, e, _⟩ := hro.shape; exact ⟨a, c, e⟩
  obtain ⟨va, vc, evl⟩ : ∃ va vc, v = .slice va n vc := by obtain ⟨a, c, e, _⟩ := h.row.shape; exact ⟨a, c, e⟩
  obtain ⟨xa, xc, exl⟩ : ∃ xa xc, lv = .slice xa m xc := by obtain ⟨_, a, c, e, _⟩ := hx; exact ⟨a, c, e⟩
  subst esl
  subst evl
  subst exl
  have HRUN := hide hrun
  have HSK := hide (And.intro hsk hst)
  have hp := h.lt
  clear h hx h1 hrun hro hg hat hst hsk
  go_enter Try.func31, Try.ntmps31
  go_wp2_with (first | (at_builtin; refine wpList_appRun rfl _ _ rfl rfl rfl (unhide HRUN) ?_))
  go_end0
  exact ⟨rfl, _, unhide HSK⟩
set_option maxRecDepth 100000 in
set_option maxHeartbeats 1600000 in
theorem new_any {w : World} {lv : Value} {m : Nat} {ys : List Value} (hx : Rx w 2 lv m ys) (h1 : ∀ u ∈ ys, u.oneCell' = true) (hN : m ≤ 8796093022207) :
    Calls Try.prog 27 #[lv] w fun e w' => e = .returned (.pointer (some ⟨w.heap.size, 0, none⟩)) ∧ ∃ v', Sk w' w.heap.size 2 v' m ys ∧ Below w.heap.size w w' ∧ ∀ k, v'.ownBlock = some k → w.heap.size < k := by
  have hB : Below w.heap.size w (w.alloc (.cells #[.slice none 0 0] 103)) := (Below.refl _ _).alloc (Nat.le_refl _) _
  have hs0 : Sk (w.alloc (.cells #[.slice none 0 0] 103)) w.heap.size 2 (.slice none 0 0) 0 [] :=
    ⟨⟨rfl, .inr ⟨w.heap.size, 0, 1, #[.slice none 0 0], 103, rfl, heap_alloc_new w _, by omega, by unfold maxLen; omega, by simp, fun j hj => by
      obtain rfl : j = 0 := by omega
      rfl⟩⟩, Ro.nil _ _, by simp [Value.ownBlock], by simp⟩
  have HP := hide (push_any hs0 (hx.below hB (Nat.le_refl _)) h1 (by omega))
  obtain ⟨Z, hZ⟩ : ∃ Z, Hid (w.heap.size = Z) := ⟨_, rfl⟩
  have HB := hide hB
  clear hs0 hx h1 hB
  rw [unhide hZ] at HP ⊢
  have hZ2 := unhide hZ
  go_enter Try.func27, Try.ntmps27
  go_wp2_with fail
  refine (unhide HP).mono ?_
  rintro e w1 ⟨rfl, v', hk, hs⟩
  have HF := hide (And.intro hk hs)
  clear hk hs HP
  go_wp2_with fail
  go_ret
  obtain ⟨hk, hs⟩ := unhide HF
  rw [Nat.zero_add, List.nil_append] at hk
  have hb := unhide HB
  rw [hZ2] at hb
  refine ⟨rfl, v', hk, hb.trans (hs.fr.below (by simp; omega) (fun k hk e => ?_)), fun k hk2 => ?_⟩
  · simp [Value.ownBlock] at e; omega
  · rcases hs.new k hk2 with q | q
    · simp [Value.ownBlock] at q
    · simp at q; omega
set_option maxRecDepth 100000 in
set_option maxHeartbeats 1600000 in
theorem from_any {w : World} {p : Nat} {v : Value} {n : Nat} {xs : List Value} (h : Sk w p 2 v n xs) {k : Nat} (hk : k ≤ n) (hN : n ≤ 8796093022207) :
    Calls Try.prog 59 #[.pointer (some ⟨p, 0, none⟩), .int .i64 k] w fun e w' => ∃ v', e = .returned v' ∧ Hx w.heap.size w' 2 v' (n - k) (xs.drop (k * 2)) ∧ Fr (fun _ => False) w w' := by
  obtain ⟨c0, f0⟩ := h.cell
  have hp := h.lt
  obtain ⟨va, vc, evl, hnc, hcm⟩ := h.row.shape
  have hrow := h.row
  rw [evl] at c0 hrow
  unfold maxLen at hcm
  clear h
  rcases hrow.2 with ⟨e2, h0⟩ | ⟨g, off, cap, cur, t', e2, rest⟩
  · cases e2
    obtain rfl : k = 0 := by omega
    obtain rfl : xs = [] := List.eq_nil_of_length_eq_zero (by simpa using hrow.1)
    have HRUN := hide (app_none (P := Try.prog) w.drew 26 26 41 Try.underlying26 (info_parts infE).choose_spec.1 none 0 0 (Nat.le_refl _) none 0)
    clear hrow hk hnc hcm hN h0 f0 evl
    go_enter Try.func59, Try.ntmps59
    go_wp2_with fail
    go_region_held3 (fun w' => w'.cell? ⟨p, 0, none⟩ = some (.slice none 0 0)) (go_keep) ((refine step_appRun rfl _ _ (by rfl) _ _ _ (by rfl) (by rfl) (unhide HRUN) ?_))
    go_wp2_with fail
    go_ret
    exact ⟨_, rfl, .inl ⟨rfl, rfl, _, rfl⟩, (Fr.refl _ _).drew⟩
  · cases e2
    have hsrc : Rx w.drew 2 (.slice (some ⟨g, if vc = k then off else off + k * 2, none⟩) (n - k) (vc - k)) (n - k) (xs.drop (k * 2)) := by
      have hpast := Rx.fr (S := fun _ => False) (Rx.of_ro (hrow.past rfl hk)) (Fr.refl _ _).drew (fun _ _ e => e)
      by_cases q : vc = k
      · rw [if_pos q]
        exact ⟨hpast.1, _, _, rfl, by omega, by unfold maxLen; omega, fun hh => by omega⟩
      · rw [if_neg q]
        exact hpast
    obtain ⟨v', w1, hrun, hx, hf, _⟩ := app_new (P := Try.prog) 26 26 41 _ Try.underlying26 infE rfl (some ⟨g, off, none⟩) hsrc (by unfold maxLen; omega) (by omega)
    have HRUN := hide hrun
    have HX : Hid (Hx w.heap.size w1 2 v' (n - k) (xs.drop (k * 2)) ∧ Fr (fun _ => False) w w1) := ⟨hx, ((Fr.refl _ w).drew).trans hf⟩
    have c1 := (hf.cell (a := ⟨p, 0, none⟩) hp (fun e => e)).trans ((World.cell?_drew w _).trans c0)
    clear hrun hx hf hsrc hrow rest
    (try simp only [Nat.mul_one] at HRUN)
    have k1 : (k : Int) ≤ (n : Int) := by omega
    have k2 : (k : Int) ≤ (vc : Int) := by omega
    have k0 : (0 : Int) ≤ (k : Int) := by omega
    clear hk hnc evl f0
    by_cases q : vc = k
    · rw [if_pos q] at HRUN
      subst q
      rw [Nat.sub_self] at HRUN
      go_enter Try.func59, Try.ntmps59
      go_wp2_with fail
      go_region_held3 (fun w' => w'.cell? ⟨p, 0, none⟩ = some (.slice (some ⟨g, off, none⟩) n vc)) (first | go_keep | exact c1) ((refine step_appRun rfl _ _ (by rfl) _ _ _ (by rfl) (by rfl) (unhide HRUN) ?_))
      go_wp2_with fail
      go_ret
      exact ⟨_, rfl, unhide HX⟩
    · rw [if_neg q] at HRUN
      go_enter Try.func59, Try.ntmps59
      go_wp2_with fail
      go_region_held3 (fun w' => w'.cell? ⟨p, 0, none⟩ = some (.slice (some ⟨g, off, none⟩) n vc)) (first | go_keep | exact c1) ((refine step_appRun rfl _ _ (by rfl) _ _ _ (by rfl) (by rfl) (unhide HRUN) ?_))
      go_wp2_with fail
      go_ret
      exact ⟨_, rfl, unhide HX⟩
set_option maxRecDepth 100000 in
set_option maxHeartbeats 1600000 in
theorem len_any {w : World} {p : Nat} {v : Value} {n : Nat} {xs : List Value} (h : Sk w p 2 v n xs) :
    Calls Try.prog 39 #[.pointer (some ⟨p, 0, none⟩)] w fun e w' => e = .returned (.int .i64 n) ∧ w' = w := by
  obtain ⟨c0, f0⟩ := h.cell
  obtain ⟨va, vc, evl, hnc, hcm⟩ := h.row.shape
  rw [evl] at c0
  unfold maxLen at hcm
  have hp := h.lt
  clear h evl
  go_enter Try.func39, Try.ntmps39
  go_wp2_with fail
  go_ret
  exact ⟨rfl, rfl⟩
set_option maxRecDepth 100000 in
set_option maxHeartbeats 3200000 in
theorem cut_any {w : World} {p : Nat} {v : Value} {n : Nat} {xs : List Value} (h : Sk w p 2 v n xs) {k : Nat} (hk : k ≤ n) :
    Calls Try.prog 60 #[.pointer (some ⟨p, 0, none⟩), .int .i64 k] w fun e w' => e = .returned (.bool true) ∧ ∃ v', Sk w' p 2 v' k (xs.take (k * 2)) ∧ StS p w v w' v' ∧ v'.ownBlock = v.ownBlock := by
  obtain ⟨c0, f0⟩ := h.cell
  have hp := h.lt
  obtain ⟨va, vc, evl, hnc, hcm⟩ := h.row.shape
  have hrow := h.row
  unfold maxLen at hcm
  have k1 : (k : Int) ≤ (n : Int) := by omega
  have k2 : (k : Int) ≤ (vc : Int) := by omega
  have k0 : (0 : Int) ≤ (k : Int) := by omega
  have kn : decide ((n : Int) < (k : Int)) = false := decide_eq_false (by omega)
  have kz : decide ((k : Int) < 0) = false := decide_eq_false (by omega)
  subst evl
  rcases hrow.2 with ⟨e2, h0⟩ | ⟨g, off, cap, cur, t', e2, rest⟩
  · cases e2
    obtain rfl : k = 0 := by omega
    obtain rfl : xs = [] := List.eq_nil_of_length_eq_zero (by simpa using hrow.1)
    obtain ⟨_, hsk, hst⟩ := h.put (Fr.refl _ w) hrow (fun k hk => .inl hk) h.one
    have hcl : ∀ ty, (Builtin.clear_ #[26] ty #[.slice none 0 0]).run Try.prog w = .ok (.tuple #[]) w := fun ty => by simp [Builtin.clear_, run_underlying Try.underlying26]
    have HS := hide (And.intro hsk hst)
    clear h hrow hsk hst hk hnc hcm h0
    go_enter Try.func60, Try.ntmps60
    go_wp2_with fail
    go_ret
    obtain ⟨q1, q2⟩ := unhide HS
    exact ⟨rfl, _, by simpa using q1, q2, rfl⟩
  · cases e2
    obtain ⟨w1, hcl, hr1, hf1⟩ := clear_rest (P := Try.prog) 26 0 41 _ Try.underlying26 infE rfl zerE hrow hk (if vc = k then ⟨g, off, none⟩ else ⟨g, off + k * 2, none⟩) (vc - k) (fun q => by rw [if_neg (by omega)])
    have hcl2 : ∀ ty, (Builtin.clear_ #[26] ty #[.slice (some (if vc = k then ⟨g, off, none⟩ else ⟨g, off + k * 2, none⟩)) (n - k) (vc - k)]).run Try.prog w = .ok (.tuple #[]) w1 := fun ty => hcl
    obtain ⟨⟨c1, f1⟩, hsk, hst⟩ := h.put (hf1.mono (fun b _ e => by rw [e]; rfl)) hr1 (fun k hk => by cases hk; exact .inl rfl) (fun u hu => h.one u (List.mem_of_mem_take hu))
    have HS := hide (And.intro hsk hst)
    clear h hrow hsk hst hk hnc hr1 hf1 rest hcl
    by_cases q : vc = k
    · simp only [if_pos q] at hcl2
      subst q
      simp only [Nat.sub_self] at hcl2
      go_enter Try.func60, Try.ntmps60
      go_wp2_with fail
      go_ret
      exact ⟨rfl, _, (unhide HS).1, (unhide HS).2, rfl⟩
    · simp only [if_neg q] at hcl2
      (try simp only [Nat.mul_one] at hcl2)
      go_enter Try.func60, Try.ntmps60
      go_wp2_with fail
      go_ret
      exact ⟨rfl, _, (unhide HS).1, (unhide HS).2, rfl⟩
set_option maxRecDepth 100000 in
set_option maxHeartbeats 1600000 in
theorem cut_no {w : World} {p : Nat} {v : Value} {n : Nat} {xs : List Value} (h : Sk w p 2 v n xs) (k : Int) (hk : k < 0 ∨ (n : Int) < k) :
    Calls Try.prog 60 #[.pointer (some ⟨p, 0, none⟩), .int .i64 k] w fun e w' => e = .returned (.bool false) ∧ w' = w := by
  obtain ⟨c0, f0⟩ := h.cell
  obtain ⟨va, vc, evl, hnc, hcm⟩ := h.row.shape
  rw [evl] at c0
  unfold maxLen at hcm
  have hp := h.lt
  clear h evl
  by_cases kz : k < 0
  · have kz' : decide (k < 0) = true := by simp [kz]
    clear hk
    go_enter Try.func60, Try.ntmps60
    go_wp2_with fail
    go_ret
    exact ⟨rfl, rfl⟩
  · have kz' : decide (k < 0) = false := decide_eq_false (by omega)
    have kn : decide ((n : Int) < k) = true := decide_eq_true (by omega)
    clear hk kz
    go_enter Try.func60, Try.ntmps60
    go_wp2_with fail
    go_ret
    exact ⟨rfl, rfl⟩
set_option maxRecDepth 100000 in
set_option maxHeartbeats 3200000 in
theorem pop_any {w : World} {p : Nat} {v : Value} {n : Nat} {xs : List Value} (h : Sk w p 2 v n xs) {k : Nat} (hk : k ≤ n) (hN : n ≤ 8796093022207) :
    Calls Try.prog 36 #[.pointer (some ⟨p, 0, none⟩), .int .i64 k] w fun e w' => ∃ u v', e = .returned (.tuple #[u, .bool true]) ∧ Hx w.heap.size w' 2 u k (xs.drop ((n - k) * 2)) ∧ Sk w' p 2 v' (n - k) (xs.take ((n - k) * 2)) ∧ StS p w v w' v' ∧ v'.ownBlock = v.ownBlock := by
  have ek : ((n : Int) - (k : Int)) = ((n - k : Nat) : Int) := by omega
  have HF := hide (from_any h (Nat.sub_le n k) hN)
  rw [← ek] at HF
  have HH := hide h
  obtain ⟨c0, f0⟩ := h.cell
  have hp := h.lt
  obtain ⟨va, vc, evl, hnc, hcm⟩ := h.row.shape
  unfold maxLen at hcm
  subst evl
  have k1 : (k : Int) ≤ (n : Int) := by omega
  have kn : decide ((n : Int) < (k : Int)) = false := decide_eq_false (by omega)
  have kz : decide ((k : Int) < 0) = false := decide_eq_false (by omega)
  have EK := hide ek
  clear h ek
  go_enter Try.func36, Try.ntmps36
  go_wp2_with fail
  refine (unhide HF).mono ?_
  rintro e w1 ⟨u, rfl, hx, hf⟩
  obtain ⟨M, hM⟩ : ∃ M, Hid (n - k = M) := ⟨_, hide rfl⟩
  have hk1 := (unhide HH).fr hf (fun e => e) (fun _ _ e => e)
  have HC := hide (cut_any hk1 (Nat.sub_le n k))
  rw [← unhide EK] at HC
  have HX := hide (And.intro hx hf)
  clear hx hf hk1 HF c0 f0
  go_wp2_with fail
  refine (unhide HC).mono ?_
  rintro e w2 ⟨rfl, v', hs2, hst2, hob2⟩
  have HS2 := hide (And.intro hs2 (And.intro hst2 hob2))
  clear hs2 hst2 hob2 HC
  go_wp2_with fail
  go_ret2
  obtain ⟨hx, hf⟩ := unhide HX
  obtain ⟨hs2, hst2, hob2⟩ := unhide HS2
  have hh := unhide HH
  refine ⟨u, v', rfl, ?_, hs2, ⟨(hf.mono (fun _ _ e => e.elim)).trans hst2.fr, fun k hk => ?_⟩, hob2⟩
  · rw [show n - (n - k) = k by omega] at hx
    refine hx.fr hst2.fr (fun b hb _ e => ?_)
    rcases e with rfl | e
    · have := hh.lt; omega
    · have := hh.row.lt b e; omega
  · rcases hst2.new k hk with q | q
    · exact .inl q
    · exact .inr (Nat.le_trans hf.size q)
set_option maxRecDepth 100000 in
set_option maxHeartbeats 1600000 in
theorem pop_no {w : World} {p : Nat} {v : Value} {n : Nat} {xs : List Value} (h : Sk w p 2 v n xs) (k : Int) (hk : k < 0 ∨ (n : Int) < k) :
    Calls Try.prog 36 #[.pointer (some ⟨p, 0, none⟩), .int .i64 k] w fun e w' => e = .returned (.tuple #[.slice none 0 0, .bool false]) ∧ w' = w := by
  obtain ⟨c0, f0⟩ := h.cell
  obtain ⟨va, vc, evl, hnc, hcm⟩ := h.row.shape
  rw [evl] at c0
  unfold maxLen at hcm
  have hp := h.lt
  clear h evl
  by_cases kz : k < 0
  · have kz' : decide (k < 0) = true := by simp [kz]
    clear hk
    go_enter Try.func36, Try.ntmps36
    go_wp2_with fail
    go_ret2
    exact ⟨rfl, rfl⟩
  · have kz' : decide (k < 0) = false := decide_eq_false (by omega)
    have kn : decide ((n : Int) < k) = true := decide_eq_true (by omega)
    clear hk kz
    go_enter Try.func36, Try.ntmps36
    go_wp2_with fail
    go_ret2
    exact ⟨rfl, rfl⟩
end Go.Proofs.Ytfcgpafjhifogaa.kV
