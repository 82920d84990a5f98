/-
  More new rows: Add, Cut, From, At as the document has them; lists with marks behind.
-/
import Derived.Test.YthmcalapofjmfaaRows2
namespace Go.Proofs.Ythmcalapofjmfaa
open Go.RowKit Go.Maps
set_option linter.unusedVariables false

set_option maxRecDepth 100000 in
set_option maxHeartbeats 800000 in
theorem rcut_any {w : World} {v : Value} {l : List ByteArray} (h : Rt w v l) (z : Int) (hM : l.length ≤ 11999999999999) : Calls Try.prog 35 #[v, .int .i64 z] w fun e w' => ∃ u, e = .returned u ∧ Nw w u (l.take z.toNat) w' := by
  obtain ⟨a, cap, rfl, h1, h2, h3⟩ := h
  obtain ⟨n, hn⟩ : ∃ n, Hid (l.length = n) := ⟨_, rfl⟩
  rw [unhide hn] at h1 hM ⊢
  unfold maxLen at h2
  have H := hide h3
  clear h3
  obtain ⟨X, HX⟩ : ∃ X, Hid (l.take z.toNat = X) := ⟨_, rfl⟩
  rw [unhide HX]
  obtain ⟨i0, hi0, hz0, hz1, hz2⟩ := info_parts Try.info9
  go_enter Try.func35, Try.ntmps35
  go_wp2
  go_loopg [5, 6] n (fun g t5 t6 wr => ∃ j : Nat, Hid (j + g = n) ∧ t6 = .int .i64 (j : Int) ∧ Hid (Nw w t5 (l.take j) wr) ∧ Hid ((j : Int) ≤ z ∨ j = 0))
  case atStart => exact ⟨0, by unfold Hid; omega, rfl, Nw.nil w, .inr rfl⟩
  case round =>
    obtain ⟨j, hj, rfl, HN, hjz⟩ := hrel
    by_cases hlt : j < n
    · by_cases hz : (j : Int) < z
      · obtain ⟨b, off, rfl, hb, hcl⟩ := unhide H j (by rw [unhide hn]; exact hlt)
        have c1 : wr.cell? ⟨b, off + j, none⟩ = some (.string (tx l j)) := by rw [(unhide HN).2.cell (p := ⟨b, off + j, none⟩) hb, hcl]
        have htk := hide (take_tx (l := l) (j := j) (by rw [unhide hn]; exact hlt))
        have hlen : Hid ((l.take j).length = j) := by unfold Hid; rw [List.length_take]; have := unhide hn; omega
        obtain ⟨s, es⟩ : ∃ s, s = tx l j := ⟨_, rfl⟩
        rw [← es] at c1 htk
        have hown : Hid (wr.ownsRow w.heap.size 9 1 u5 j ((l.take j).map Value.string)) := by have := (unhide HN).1; rw [unhide hlen] at this; exact this
        have hbs : Hid (w.heap.size ≤ wr.heap.size) := (unhide HN).2.size
        have i1 : (0 : Int) ≤ (j : Int) := by omega
        have i2 : (j : Int) < (n : Int) := by omega
        clear es hcl
        go_wp2_with (first | (at_builtin; refine wpList_app rfl _ _ rfl w.heap.size _ j _ rfl ((unhide hown).alloc _) ⟨wr.heap.size, 0, none⟩ 1 s rfl (cell_one_new _ _ _) (by omega) (by have := unhide hbs; simp; omega) ?_; intro v' w1 hown' hgrow hloc hnil; have HN1 : Hid (Nw w v' (l.take (j + 1)) w1) := by { rw [unhide htk]; exact (unhide HN).moreN (unhide hlen) hown' hgrow }; clear hown' hgrow hnil hloc) | fail)
        go_roundg (gk - 1)
        case measure => have := unhide hj; omega
        case rel => exact ⟨j + 1, by have := unhide hj; unfold Hid; omega, by go_num, HN1, .inl (by omega)⟩
      · have HN2 : Hid (Nw w u5 X wr) := by
          have := unhide HN
          rw [show l.take j = X from by rw [← unhide HX, show z.toNat = j from by have := unhide hjz; omega]] at this
          exact this
        go_wp2
        go_ret
        exact ⟨_, rfl, unhide HN2⟩
    · have HN2 : Hid (Nw w u5 X wr) := by
        have := unhide HN
        rw [List.take_of_length_le (by rw [unhide hn]; omega)] at this
        rw [show X = l from by rw [← unhide HX]; rcases unhide hjz with q | q <;> exact List.take_of_length_le (by have := unhide hn; omega)]
        exact this
      go_wp2
      go_ret
      exact ⟨_, rfl, unhide HN2⟩

theorem radd_old {w : World} {v : Value} {l : List ByteArray} (h : Rt w v l) (s : ByteArray) {q : Nat} (hq : idx l s = some q) : Calls Try.prog 21 #[v, .string s] w fun e w' => e = .returned (.tuple #[v, .int .i64 (q : Int)]) ∧ w' = w := by
  have hF := rfind_any h s
  rw [hq] at hF
  simp only [Option.getD_some, Option.isSome_some] at hF
  have HF := hide hF
  obtain ⟨a, cap, rfl, h1, h2, h3⟩ := h
  clear hF hq h3
  go_enter Try.func21, Try.ntmps21
  go_wp2_with fail
  refine (unhide HF).mono ?_
  rintro e w2 ⟨rfl, hw2⟩
  rw [hw2]
  go_wp2
  go_ret2
  exact ⟨rfl, rfl⟩

set_option maxRecDepth 100000 in
set_option maxHeartbeats 800000 in
theorem radd_new {w : World} {v : Value} {l : List ByteArray} (h : Rt w v l) (t : ByteArray) (hq : idx l t = none) (hM : l.length < 11999999999999) : Calls Try.prog 21 #[v, .string t] w fun e w' => ∃ u, e = .returned (.tuple #[u, .int .i64 (l.length : Int)]) ∧ Nw w u (l ++ [t]) w' := by
  have hF := rfind_any h t
  rw [hq] at hF
  simp only [Option.getD_none, Option.isSome_none] at hF
  have HF := hide hF
  obtain ⟨a, cap, rfl, h1, h2, h3⟩ := h
  obtain ⟨n, hn⟩ : ∃ n, Hid (l.length = n) := ⟨_, rfl⟩
  rw [unhide hn] at h1 hM HF ⊢
  unfold maxLen at h2
  have H := hide h3
  clear h3 hF hq
  obtain ⟨i0, hi0, hz0, hz1, hz2⟩ := info_parts Try.info9
  go_enter Try.func21, Try.ntmps21
  go_wp2_with fail
  refine (unhide HF).mono ?_
  rintro e w2 ⟨rfl, hw2⟩
  rw [hw2]
  clear hw2 w2 HF
  go_wp2
  go_loopg [8, 9] n (fun g t8 t9 wr => ∃ j : Nat, Hid (j + g = n) ∧ t9 = .int .i64 (j : Int) ∧ Hid (Nw w t8 (l.take j) wr))
  case atStart => exact ⟨0, by unfold Hid; omega, rfl, Nw.nil w⟩
  case round =>
    obtain ⟨j, hj, rfl, HN⟩ := hrel
    have hbs : Hid (w.heap.size ≤ wr.heap.size) := (unhide HN).2.size
    by_cases hlt : j < n
    · obtain ⟨b, off, rfl, hb, hcl⟩ := unhide H j (by rw [unhide hn]; exact hlt)
      have c1 : wr.cell? ⟨b, off + j, none⟩ = some (.string (tx l j)) := by rw [(unhide HN).2.cell (p := ⟨b, off + j, none⟩) hb, hcl]
      have htk := hide (take_tx (l := l) (j := j) (by rw [unhide hn]; exact hlt))
      have hlen : Hid ((l.take j).length = j) := by unfold Hid; rw [List.length_take]; have := unhide hn; omega
      obtain ⟨s, es⟩ : ∃ s, s = tx l j := ⟨_, rfl⟩
      rw [← es] at c1 htk
      have hown : Hid (wr.ownsRow w.heap.size 9 1 u8 j ((l.take j).map Value.string)) := by have := (unhide HN).1; rw [unhide hlen] at this; exact this
      have i1 : (0 : Int) ≤ (j : Int) := by omega
      have i2 : (j : Int) < (n : Int) := by omega
      clear es hcl
      go_wp2_with (first | (at_builtin; refine wpList_app rfl _ _ rfl w.heap.size _ j _ rfl ((unhide hown).alloc _) ⟨wr.heap.size, 0, none⟩ 1 s rfl (cell_one_new _ _ _) (by omega) (by have := unhide hbs; simp; omega) ?_; intro v' w1 hown' hgrow hloc hnil; have HN1 : Hid (Nw w v' (l.take (j + 1)) w1) := by { rw [unhide htk]; exact (unhide HN).moreN (unhide hlen) hown' hgrow }; clear hown' hgrow hnil hloc) | fail)
      go_roundg (gk - 1)
      case measure => have := unhide hj; omega
      case rel => exact ⟨j + 1, by have := unhide hj; unfold Hid; omega, by go_num, HN1⟩
    · have HN2 : Hid (Nw w u8 l wr) := by have := unhide HN; rw [List.take_of_length_le (by rw [unhide hn]; omega)] at this; exact this
      have hown : Hid (wr.ownsRow w.heap.size 9 1 u8 n (l.map Value.string)) := by have := (unhide HN2).1; rw [unhide hn] at this; exact this
      clear HN
      go_wp2_with (first | (at_builtin; refine wpList_app rfl _ _ rfl w.heap.size _ n _ rfl ((unhide hown).alloc _) ⟨wr.heap.size, 0, none⟩ 1 t rfl (cell_one_new _ _ _) (by omega) (by have := unhide hbs; simp; omega) ?_; intro v' w1 hown' hgrow hloc hnil; have HN1 : Hid (Nw w v' (l ++ [t]) w1) := (unhide HN2).moreN (unhide hn) hown' hgrow; clear hown' hgrow hnil hloc) | fail)
      go_ret2
      exact ⟨_, rfl, unhide HN1⟩

/-- Add, as the document has it. -/
theorem radd_any {w : World} {v : Value} {l : List ByteArray} (h : Rt w v l) (t : ByteArray) (hM : l.length < 11999999999999) : Calls Try.prog 21 #[v, .string t] w fun e w' => ∃ u, e = .returned (.tuple #[u, .int .i64 ((num l t : Nat) : Int)]) ∧ Rt w' u (ins l t) ∧ Below w.heap.size w w' ∧ (u.ownBlock = v.ownBlock ∨ ∀ k, u.ownBlock = some k → w.heap.size ≤ k ∧ k < w'.heap.size) := by
  cases hq : idx l t with
  | some q =>
    rw [(ins_old hq).1, (ins_old hq).2]
    exact (radd_old h t hq).mono fun e w' ⟨he, hw⟩ => ⟨v, he, by rw [hw]; exact h, by rw [hw]; exact Below.refl _ _, .inl rfl⟩
  | none =>
    rw [(ins_new hq).1, (ins_new hq).2]
    exact (radd_new h t hq hM).mono fun e w' ⟨u, he, hN⟩ => ⟨u, he, hN.rt, hN.2, .inr (fun k hk => hN.1.lt k hk)⟩

set_option maxRecDepth 100000 in
set_option maxHeartbeats 800000 in
theorem rat_in {w : World} {v : Value} {l : List ByteArray} (h : Rt w v l) (i : Nat) (hi : i < l.length) (hM : l.length ≤ 11999999999999) : Calls Try.prog 34 #[v, .int .i64 (i : Int)] w fun e w' => e = .returned (.tuple #[.string (tx l i), .bool true]) ∧ w' = w := by
  obtain ⟨a, cap, rfl, h1, h2, h3⟩ := h
  obtain ⟨b, off, rfl, hb, hc⟩ := h3 i hi
  obtain ⟨s, es⟩ : ∃ s, s = tx l i := ⟨_, rfl⟩
  obtain ⟨n, hn⟩ : ∃ n, n = l.length := ⟨_, rfl⟩
  rw [← es] at hc ⊢
  rw [← hn] at hi hM ⊢
  clear h3 h1 h2 es hn
  go_enter Try.func34, Try.ntmps34
  go_wp2
  go_ret2
  exact ⟨rfl, rfl⟩
set_option maxRecDepth 100000 in
set_option maxHeartbeats 800000 in
theorem rat_out {w : World} {v : Value} {l : List ByteArray} (h : Rt w v l) (i : Int) (hi : i < 0 ∨ (l.length : Int) ≤ i) : Calls Try.prog 34 #[v, .int .i64 i] w fun e w' => e = .returned (.tuple #[.string ByteArray.empty, .bool false]) ∧ w' = w := by
  obtain ⟨a, cap, rfl, h1, h2, h3⟩ := h
  obtain ⟨n, hn⟩ : ∃ n, n = l.length := ⟨_, rfl⟩
  rw [← hn] at hi ⊢
  clear h3 h1 h2 hn
  rcases Int.lt_or_le i 0 with q | q
  · go_enter Try.func34, Try.ntmps34
    go_wp2
    go_ret2
    exact ⟨rfl, rfl⟩
  · have q2 := hi.resolve_left (by omega)
    clear hi
    go_enter Try.func34, Try.ntmps34
    go_wp2
    go_ret2
    exact ⟨rfl, rfl⟩

set_option maxRecDepth 100000 in
set_option maxHeartbeats 800000 in
theorem rfrom_yes {w : World} {v : Value} {l : List ByteArray} (h : Rt w v l) (hM : l.length ≤ 11999999999999) (hd : l.Nodup) : Calls Try.prog 14 #[v] w fun e w' => ∃ u, e = .returned (.tuple #[u, .bool true]) ∧ Nw w u l w' := by
  have HD := hide hd
  obtain ⟨a, cap, rfl, h1, h2, h3⟩ := h
  obtain ⟨n, hn⟩ : ∃ n, Hid (l.length = n) := ⟨_, rfl⟩
  rw [unhide hn] at h1 hM ⊢
  unfold maxLen at h2
  have H := hide h3
  clear h3 hd
  obtain ⟨i0, hi0, hz0, hz1, hz2⟩ := info_parts Try.info9
  go_enter Try.func14, Try.ntmps14
  go_wp2
  go_loopg [4, 5] n (fun g t4 t5 wr => ∃ j : Nat, Hid (j + g = n) ∧ t5 = .int .i64 (j : Int) ∧ Hid (Nw w t4 (l.take j) wr))
  case atStart => exact ⟨0, by unfold Hid; omega, rfl, Nw.nil w⟩
  case round =>
    obtain ⟨j, hj, rfl, HN⟩ := hrel
    have hbs : Hid (w.heap.size ≤ wr.heap.size) := (unhide HN).2.size
    by_cases hlt : j < n
    · obtain ⟨b, off, rfl, hb, hcl⟩ := unhide H j (by rw [unhide hn]; exact hlt)
      have c1 : wr.cell? ⟨b, off + j, none⟩ = some (.string (tx l j)) := by rw [(unhide HN).2.cell (p := ⟨b, off + j, none⟩) hb, hcl]
      have htk := hide (take_tx (l := l) (j := j) (by rw [unhide hn]; exact hlt))
      have hlen : Hid ((l.take j).length = j) := by unfold Hid; rw [List.length_take]; have := unhide hn; omega
      have hF := rfind_any (unhide HN).rt (tx l j)
      rw [take_new (unhide HD) (by rw [unhide hn]; exact hlt)] at hF
      simp only [Option.getD_none, Option.isSome_none] at hF
      have HF := hide hF
      obtain ⟨s, es⟩ : ∃ s, s = tx l j := ⟨_, rfl⟩
      rw [← es] at c1 htk HF
      have hown : Hid (wr.ownsRow w.heap.size 9 1 u4 j ((l.take j).map Value.string)) := by have := (unhide HN).1; rw [unhide hlen] at this; exact this
      have i1 : (0 : Int) ≤ (j : Int) := by omega
      have i2 : (j : Int) < (n : Int) := by omega
      clear es hcl hF
      go_wp2_with fail
      refine (unhide HF).mono ?_
      rintro e w2 ⟨rfl, hw2⟩
      rw [hw2]
      clear hw2 w2 HF
      go_wp2_with (first | (at_builtin; refine wpList_app rfl _ _ rfl w.heap.size _ j _ rfl ((unhide hown).alloc _) ⟨wr.heap.size, 0, none⟩ 1 s rfl (cell_one_new _ _ _) (by omega) (by have := unhide hbs; simp; omega) ?_; intro v' w1 hown' hgrow hloc hnil; have HN1 : Hid (Nw w v' (l.take (j + 1)) w1) := by { rw [unhide htk]; exact (unhide HN).moreN (unhide hlen) hown' hgrow }; clear hown' hgrow hnil hloc) | fail)
      go_roundg (gk - 1)
      case measure => have := unhide hj; omega
      case rel => exact ⟨j + 1, by have := unhide hj; unfold Hid; omega, by go_num, HN1⟩
    · have HN2 : Hid (Nw w u4 l wr) := by have := unhide HN; rw [List.take_of_length_le (by rw [unhide hn]; omega)] at this; exact this
      go_wp2
      go_ret2
      exact ⟨_, rfl, unhide HN2⟩

set_option maxRecDepth 100000 in
set_option maxHeartbeats 800000 in
theorem rfrom_no {w : World} {v : Value} {l : List ByteArray} (h : Rt w v l) (hM : l.length ≤ 11999999999999) (hd : ¬ l.Nodup) : Calls Try.prog 14 #[v] w fun e w' => e = .returned (.tuple #[.slice none 0 0, .bool false]) ∧ Below w.heap.size w w' := by
  obtain ⟨m, hm, hdm, i, him⟩ := first_twice hd
  obtain ⟨a, cap, rfl, h1, h2, h3⟩ := h
  obtain ⟨n, hn⟩ : ∃ n, Hid (l.length = n) := ⟨_, rfl⟩
  rw [unhide hn] at h1 hM hm ⊢
  unfold maxLen at h2
  have H := hide h3
  have HIM := hide him
  have HDM := hide hdm
  clear h3 hd him hdm
  obtain ⟨i0, hi0, hz0, hz1, hz2⟩ := info_parts Try.info9
  go_enter Try.func14, Try.ntmps14
  go_wp2
  go_loopg [4, 5] m (fun g t4 t5 wr => ∃ j : Nat, Hid (j + g = m) ∧ j ≤ m ∧ t5 = .int .i64 (j : Int) ∧ Hid (Nw w t4 (l.take j) wr))
  case atStart => exact ⟨0, by unfold Hid; omega, Nat.zero_le _, rfl, Nw.nil w⟩
  case round =>
    obtain ⟨j, hj, hjm, rfl, HN⟩ := hrel
    have hbs : Hid (w.heap.size ≤ wr.heap.size) := (unhide HN).2.size
    have hlt : j < n := by omega
    obtain ⟨b, off, rfl, hb, hcl⟩ := unhide H j (by rw [unhide hn]; exact hlt)
    have c1 : wr.cell? ⟨b, off + j, none⟩ = some (.string (tx l j)) := by rw [(unhide HN).2.cell (p := ⟨b, off + j, none⟩) hb, hcl]
    have htk := hide (take_tx (l := l) (j := j) (by rw [unhide hn]; exact hlt))
    have hlen : Hid ((l.take j).length = j) := by unfold Hid; rw [List.length_take]; have := unhide hn; omega
    have hF := rfind_any (unhide HN).rt (tx l j)
    have i1 : (0 : Int) ≤ (j : Int) := by omega
    have i2 : (j : Int) < (n : Int) := by omega
    by_cases hq : j < m
    · have htl : tx l j = tx (l.take m) j := (tx_take hq).symm
      have hnew : idx (l.take j) (tx l j) = none := by
        have := take_new (unhide HDM) (j := j) (by rw [List.length_take, unhide hn]; omega)
        rwa [← htl, List.take_take, Nat.min_eq_left (by omega)] at this
      rw [hnew] at hF
      simp only [Option.getD_none, Option.isSome_none] at hF
      have HF := hide hF
      clear htl hnew
      obtain ⟨s, es⟩ : ∃ s, s = tx l j := ⟨_, rfl⟩
      rw [← es] at c1 htk HF
      have hown : Hid (wr.ownsRow w.heap.size 9 1 u4 j ((l.take j).map Value.string)) := by have := (unhide HN).1; rw [unhide hlen] at this; exact this
      clear es hcl hF
      go_wp2_with fail
      refine (unhide HF).mono ?_
      rintro e w2 ⟨rfl, hw2⟩
      rw [hw2]
      clear hw2 w2 HF
      go_wp2_with (first | (at_builtin; refine wpList_app rfl _ _ rfl w.heap.size _ j _ rfl ((unhide hown).alloc _) ⟨wr.heap.size, 0, none⟩ 1 s rfl (cell_one_new _ _ _) (by omega) (by have := unhide hbs; simp; omega) ?_; intro v' w1 hown' hgrow hloc hnil; have HN1 : Hid (Nw w v' (l.take (j + 1)) w1) := by { rw [unhide htk]; exact (unhide HN).moreN (unhide hlen) hown' hgrow }; clear hown' hgrow hnil hloc) | fail)
      go_roundg (gk - 1)
      case measure => have := unhide hj; omega
      case rel => exact ⟨j + 1, by have := unhide hj; unfold Hid; omega, by omega, by go_num, HN1⟩
    · have e : j = m := by omega
      have him2 : idx (l.take j) (tx l j) = some i := by rw [e]; exact unhide HIM
      rw [him2] at hF
      simp only [Option.getD_some, Option.isSome_some] at hF
      have HF := hide hF
      obtain ⟨s, es⟩ : ∃ s, s = tx l j := ⟨_, rfl⟩
      rw [← es] at c1 HF
      have HB := hide (unhide HN).2
      clear es hcl hF e him2
      go_wp2_with fail
      refine (unhide HF).mono ?_
      rintro e w2 ⟨rfl, hw2⟩
      rw [hw2]
      clear hw2 w2 HF
      go_wp2
      go_ret2
      exact ⟨rfl, unhide HB⟩

def mark : ByteArray := ⟨#[109, 97, 114, 107]⟩
/-- A list with marks behind. -/
def lentL (l : List ByteArray) : List ByteArray := l ++ List.replicate 64 mark
set_option maxRecDepth 100000 in
set_option maxHeartbeats 800000 in
theorem lent_any {w : World} {v : Value} {l : List ByteArray} (h : Rt w v l) (hM : l.length ≤ 11999999999900) : Calls Try.prog 13 #[v] w fun e w' => ∃ u, e = .returned u ∧ Nw w u (lentL l) w' := by
  have hC := hide (copy_any h (by omega))
  obtain ⟨n, hn⟩ : ∃ n, Hid (l.length = n) := ⟨_, rfl⟩
  rw [unhide hn] at hM
  obtain ⟨i0, hi0, hz0, hz1, hz2⟩ := info_parts Try.info9
  obtain ⟨mk, hmk⟩ : ∃ mk, Hid (mark = mk) := ⟨_, rfl⟩
  obtain ⟨a, cap, rfl, h1, h2, h3⟩ := h
  clear h3 h1 h2
  go_enter Try.func13, Try.ntmps13
  go_wp2_with fail
  refine (unhide hC).mono ?_
  rintro e w1 ⟨u, rfl, hN⟩
  have HN : Hid (Nw w u (l ++ List.replicate 0 mark) w1) := by have := hN; rw [← List.append_nil l] at this; exact this
  clear hN hC
  go_wp2
  go_loopg [3, 4] 64 (fun g t3 t4 wr => ∃ j : Nat, Hid (j + g = 64) ∧ t4 = .int .i64 (j : Int) ∧ Hid (Nw w t3 (l ++ List.replicate j mark) wr))
  case atStart => exact ⟨0, by unfold Hid; omega, rfl, HN⟩
  case round =>
    clear HN
    obtain ⟨j, hj, rfl, HN⟩ := hrel
    have hbs : Hid (w.heap.size ≤ wr.heap.size) := (unhide HN).2.size
    by_cases hlt : j < 64
    · have hlen : Hid ((l ++ List.replicate j mark).length = n + j) := by unfold Hid; rw [List.length_append, List.length_replicate, unhide hn]
      have hown : Hid (wr.ownsRow w.heap.size 9 1 u3 (n + j) ((l ++ List.replicate j mark).map Value.string)) := by have := (unhide HN).1; rw [unhide hlen] at this; exact this
      have hrep : Hid (l ++ List.replicate (j + 1) mark = (l ++ List.replicate j mark) ++ [mark]) := by unfold Hid; rw [List.replicate_succ', List.append_assoc]
      have i2 : (j : Int) < 64 := by omega
      go_wp2_with (first | (at_builtin; refine wpList_app rfl _ _ rfl w.heap.size _ (n + j) _ rfl ((unhide hown).alloc _) ⟨wr.heap.size, 0, none⟩ 1 mark rfl (cell_one_new _ _ _) (by omega) (by have := unhide hbs; simp; omega) ?_; intro v' w1 hown' hgrow hloc hnil; have HN1 : Hid (Nw w v' (l ++ List.replicate (j + 1) mark) w1) := by { rw [unhide hrep]; exact (unhide HN).moreN (unhide hlen) hown' hgrow }; clear hown' hgrow hnil hloc) | fail)
      go_roundg (gk - 1)
      case measure => have := unhide hj; omega
      case rel => exact ⟨j + 1, by have := unhide hj; unfold Hid; omega, by go_num, HN1⟩
    · have HN2 : Hid (Nw w u3 (lentL l) wr) := by have := unhide HN; rw [show j = 64 from by have := unhide hj; omega] at this; exact this
      have i2 : ¬ (j : Int) < 64 := by omega
      go_wp2
      go_ret
      exact ⟨_, rfl, unhide HN2⟩
end Go.Proofs.Ythmcalapofjmfaa
