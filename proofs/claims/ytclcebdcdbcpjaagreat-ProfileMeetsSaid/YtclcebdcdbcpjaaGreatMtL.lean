/-
  ProfileMeets: its law.
-/
import Derived.Test.YtclcebdcdbcpjaaGreatBk7
import Derived.Test.YtclcebdcdbcpjaaGreatPRm
import Derived.Test.YtclcebdcdbcpjaaGreatPMg
import Derived.Test.YtclcebdcdbcpjaaGreatSh1
namespace Go.Proofs.YtclcebdcdbcpjaaGreat
set_option linter.unusedVariables false
set_option linter.unusedSimpArgs false
theorem orU_nat {a b : Int} (ha : 0 ≤ a ∧ a < 65536) (hb : 0 ≤ b ∧ b < 65536) : orU a b = ((a.toNat ||| b.toNat : Nat) : Int) := by
  unfold orU
  exact u16_or _ _ ha.1 ha.2 hb.1 hb.2
theorem orU_ok {a b : Int} (ha : 0 ≤ a ∧ a < 65536) (hb : 0 ≤ b ∧ b < 65536) : 0 ≤ orU a b ∧ orU a b < 65536 := by
  rw [orU_nat ha hb]
  have h1 : a.toNat < 2 ^ 16 := by omega
  have h2 : b.toNat < 2 ^ 16 := by omega
  have := Nat.or_lt_two_pow h1 h2
  omega
theorem orU_comm {a b : Int} (ha : 0 ≤ a ∧ a < 65536) (hb : 0 ≤ b ∧ b < 65536) : orU a b = orU b a := by
  rw [orU_nat ha hb, orU_nat hb ha, Nat.or_comm]
theorem orU_assoc {a b c : Int} (ha : 0 ≤ a ∧ a < 65536) (hb : 0 ≤ b ∧ b < 65536) (hc : 0 ≤ c ∧ c < 65536) : orU (orU a b) c = orU a (orU b c) := by
  rw [orU_nat (orU_ok ha hb) hc, orU_nat ha (orU_ok hb hc), orU_nat ha hb, orU_nat hb hc, Int.toNat_natCast, Int.toNat_natCast, Nat.or_assoc]
theorem cnt_comm (a b : Int) : cnt a b = cnt b a := by unfold cnt; rw [Int.add_comm]
theorem cnt_ok (a b : Int) : -9223372036854775808 ≤ cnt a b ∧ cnt a b < 9223372036854775808 := by unfold cnt; split <;> (try split) <;> omega
theorem cnt_nn {a b : Int} (ha : 0 ≤ a) (hb : 0 ≤ b) : 0 ≤ cnt a b := by unfold cnt; split <;> (try split) <;> omega
theorem cnt_assoc {a b c : Int} (ha : 0 ≤ a) (hb : 0 ≤ b) (hc : 0 ≤ c) : cnt (cnt a b) c = cnt a (cnt b c) := by
  unfold cnt
  repeat' split
  all_goals omega
theorem cal_comm (a b : Int) : cal a b = cal b a := by
  unfold cal
  repeat' split
  all_goals omega
theorem cal_assoc (a b c : Int) : cal (cal a b) c = cal a (cal b c) := by
  unfold cal
  repeat' split
  all_goals omega
theorem cal_ok {a b : Int} (ha : -9223372036854775808 ≤ a ∧ a < 9223372036854775808) (hb : -9223372036854775808 ≤ b ∧ b < 9223372036854775808) : -9223372036854775808 ≤ cal a b ∧ cal a b < 9223372036854775808 := by
  unfold cal
  repeat' split
  all_goals omega
theorem tog_ok {x y : Sp} (hx : okS x) (hy : okS y) : okS (tog x y) := ⟨cnt_ok _ _, orU_ok hx.2.1 hy.2.1, orU_ok hx.2.2.1 hy.2.2.1, cal_ok hx.2.2.2 hy.2.2.2⟩
theorem tog_comm {x y : Sp} (hx : okS x) (hy : okS y) : tog x y = tog y x := by
  unfold tog
  rw [cnt_comm, orU_comm hx.2.1 hy.2.1, orU_comm hx.2.2.1 hy.2.2.1, cal_comm]
theorem tog_assoc {x y z : Sp} (hx : okS x) (hy : okS y) (hz : okS z) (nx : 0 ≤ x.c) (ny : 0 ≤ y.c) (nz : 0 ≤ z.c) : tog (tog x y) z = tog x (tog y z) := by
  unfold tog
  simp only
  rw [cnt_assoc nx ny nz, orU_assoc hx.2.1 hy.2.1 hz.2.1, orU_assoc hx.2.2.1 hy.2.2.1 hz.2.2.1, cal_assoc]
theorem okSz : okS spZ := by unfold okS spZ; simp
theorem szP_none {f : List (List Sp)} {n : Nat} (h : f.length ≤ n) : szP f (n : Int) = 0 := szP_no (.inr (by omega))
theorem atP_none {f : List (List Sp)} {n k : Nat} (h : szP f (n : Int) ≤ k) : atP f (n : Int) (k : Int) = spZ := atP_no (.inr (by omega))
theorem pf_ext {f g : List (List Sp)} (hl : f.length = g.length) (hs : ∀ n : Nat, szP f (n : Int) = szP g (n : Int)) (ha : ∀ n k : Nat, atP f (n : Int) (k : Int) = atP g (n : Int) (k : Int)) : f = g := by
  refine List.ext_getElem? (fun n => ?_)
  cases h1 : f[n]? with
  | none => exact (List.getElem?_eq_none (by rw [← hl]; exact List.getElem?_eq_none_iff.1 h1)).symm
  | some l =>
    have hn := (List.getElem?_eq_some_iff.1 h1).1
    have h2 : g[n]? = some (g[n]'(by omega)) := List.getElem?_eq_getElem (by omega)
    rw [h2]
    obtain ⟨m, hm⟩ : ∃ m, g[n]'(by omega) = m := ⟨_, rfl⟩
    rw [hm] at h2 ⊢
    congr 1
    have e1 : l.length = m.length := by rw [← szP_at h1, ← szP_at h2]; exact hs n
    refine List.ext_getElem e1 (fun k k1 k2 => ?_)
    have a1 := atP_at (f := f) h1 (List.getElem?_eq_getElem k1)
    have a2 := atP_at (f := g) h2 (List.getElem?_eq_getElem k2)
    rw [← a1, ← a2]
    exact ha n k
theorem szP_mrg (f g : List (List Sp)) (n : Nat) : szP (mrg f g) (n : Int) = max (szP f (n : Int)) (szP g (n : Int)) := by
  by_cases h : n < max f.length g.length
  · rw [szP_at (mrg_at h), mrgL_len]
  · rw [szP_none (by rw [mrg_len]; omega), szP_none (by omega), szP_none (by omega)]; rfl
theorem atP_mrg (f g : List (List Sp)) (n k : Nat) : atP (mrg f g) (n : Int) (k : Int) = tog (atP f (n : Int) (k : Int)) (atP g (n : Int) (k : Int)) := by
  by_cases h : k < max (szP f (n : Int)) (szP g (n : Int))
  · have hn : n < max f.length g.length := by
      by_cases q : n < max f.length g.length
      · exact q
      · rw [szP_none (f := f) (by omega), szP_none (f := g) (by omega)] at h; omega
    have h2 : (mrgL f g n)[k]? = some ((mrgL f g n)[k]'(by rw [mrgL_len]; exact h)) := List.getElem?_eq_getElem _
    rw [atP_at (mrg_at hn) h2, ← mrgL_at h2]
  · rw [atP_none (by rw [szP_mrg]; omega), atP_none (by omega), atP_none (by omega), tog_zero okSz]
theorem mrg_comm {f g : List (List Sp)} (hf : OkF f) (hg : OkF g) : mrg f g = mrg g f :=
  pf_ext (by rw [mrg_len, mrg_len, Nat.max_comm]) (fun n => by rw [szP_mrg, szP_mrg, Nat.max_comm]) (fun n k => by rw [atP_mrg, atP_mrg]; exact tog_comm (hf.atP' _ _) (hg.atP' _ _))
theorem szP_nil (n : Int) : szP [] n = 0 := by unfold szP; split <;> simp
theorem atP_nil (n k : Int) : atP [] n k = spZ := by unfold atP; split <;> simp
theorem mrg_left {f : List (List Sp)} (hf : OkF f) : mrg [] f = f :=
  pf_ext (by rw [mrg_len]; simp) (fun n => by rw [szP_mrg, szP_nil]; simp) (fun n k => by rw [atP_mrg, atP_nil]; exact tog_zero (hf.atP' _ _))
theorem mrg_right {f : List (List Sp)} (hf : OkF f) : mrg f [] = f := by rw [mrg_comm hf (fun l hl => by simp at hl)]; exact mrg_left hf
theorem mrg_okF {f g : List (List Sp)} (hf : OkF f) (hg : OkF g) : OkF (mrg f g) := fun l hl s hs => by
  obtain ⟨n, hn, rfl⟩ := List.getElem_of_mem hl
  obtain ⟨k, hk, rfl⟩ := List.getElem_of_mem hs
  have a1 := atP_at (f := mrg f g) (List.getElem?_eq_getElem hn) (List.getElem?_eq_getElem hk)
  rw [← a1, atP_mrg]
  exact tog_ok (hf.atP' _ _) (hg.atP' _ _)
/-- Is no count below 0? -/
def cntB (f : List (List Sp)) : Bool := f.all (fun l => l.all (fun s => decide (0 ≤ s.c)))
theorem cntB_at {f : List (List Sp)} (h : cntB f = true) (n k : Nat) : 0 ≤ (atP f (n : Int) (k : Int)).c := by
  unfold atP
  rw [if_neg (by omega)]
  cases e : f[(n : Int).toNat]? with
  | none => simp [spZ]
  | some l =>
    simp only [Option.getD_some]
    cases e2 : l[(k : Int).toNat]? with
    | none => simp [spZ]
    | some x =>
      simp only [Option.getD_some]
      unfold cntB at h
      rw [List.all_eq_true] at h
      have h1 := h l (List.mem_of_getElem? e)
      rw [List.all_eq_true] at h1
      exact of_decide_eq_true (h1 x (List.mem_of_getElem? e2))
theorem mrg_assoc {f g h : List (List Sp)} (hf : OkF f) (hg : OkF g) (hh : OkF h) (cf : cntB f = true) (cg : cntB g = true) (ch : cntB h = true) : mrg (mrg f g) h = mrg f (mrg g h) :=
  pf_ext (by simp only [mrg_len]; omega) (fun n => by simp only [szP_mrg]; omega) (fun n k => by
    rw [atP_mrg, atP_mrg, atP_mrg, atP_mrg]
    exact tog_assoc (hf.atP' _ _) (hg.atP' _ _) (hh.atP' _ _) (cntB_at cf n k) (cntB_at cg n k) (cntB_at ch n k))
theorem mrg_rows {f g : List (List Sp)} {B : Nat} (hf : ∀ l ∈ f, l.length ≤ B) (hg : ∀ l ∈ g, l.length ≤ B) : ∀ l ∈ mrg f g, l.length ≤ B := fun l hl => by
  obtain ⟨n, hn, rfl⟩ := List.getElem_of_mem hl
  have a1 := szP_at (f := mrg f g) (List.getElem?_eq_getElem hn)
  have h1 := szP_le hf (n : Int)
  have h2 := szP_le hg (n : Int)
  rw [← a1, szP_mrg]
  omega
end Go.Proofs.YtclcebdcdbcpjaaGreat
namespace Go.Proofs.YtclcebdcdbcpjaaGreat
open Go.RowKit
set_option linter.unusedVariables false
set_option linter.unusedSimpArgs false
theorem cntB_no {f : List (List Sp)} {i j : Nat} {l : List Sp} {s : Sp} (hl : f[i]? = some l) (hs : l[j]? = some s) (h : s.c < 0) : cntB f = false := by
  unfold cntB
  rw [List.all_eq_false]
  refine ⟨l, List.mem_of_getElem? hl, ?_⟩
  rw [Bool.not_eq_true, List.all_eq_false]
  exact ⟨s, List.mem_of_getElem? hs, by simp; omega⟩
def cnL (l : List Sp) : Bool := l.all (fun s => decide (0 ≤ s.c))
theorem cnL_more {l : List Sp} {j : Nat} {s : Sp} (hs : l[j]? = some s) (h : 0 ≤ s.c) (k : cnL (l.take j) = true) : cnL (l.take (j + 1)) = true := by
  unfold cnL at *
  rw [List.take_add_one, hs, List.all_append, k]
  simp [h]
theorem cntB_more {f : List (List Sp)} {i : Nat} {l : List Sp} (hl : f[i]? = some l) (h : cnL l = true) (k : cntB (f.take i) = true) : cntB (f.take (i + 1)) = true := by
  unfold cntB at *
  rw [List.take_add_one, hl, List.all_append, k]
  unfold cnL at h
  simp only [Option.toList_some, List.all_cons, List.all_nil, Bool.and_true, Bool.true_and]
  exact h
set_option maxRecDepth 100000 in
set_option maxHeartbeats 3200000 in
theorem counted_any {w : World} {av : Value} {f : List (List Sp)} (ha : PfV w av f) :
    Calls Tryz.prog 12 #[.agg #[av]] w fun e w' => e = .returned (.bool (cntB f)) ∧ Below w.heap.size w w' := by
  obtain ⟨a, acap, rfl, h1, h2⟩ := ha.shape
  have HB0 := hide (box1 w (.slice a f.length acap) 25)
  have HA := hide (ha.below (unhide HB0) (Nat.le_refl _))
  obtain ⟨q, hq⟩ : ∃ q, Hid (w.heap.size = q) := ⟨_, hide rfl⟩
  have HX := hide (heap_alloc_new w (.cells #[.slice a f.length acap] 25))
  obtain ⟨an, han⟩ : ∃ an, Hid (cntB f = an) := ⟨_, hide rfl⟩
  rw [unhide han]
  obtain ⟨L, hL⟩ : ∃ L, Hid (f.length = L) := ⟨_, hide rfl⟩
  rw [unhide hL] at HB0 HA HX h1 ⊢
  unfold maxLen at h2
  obtain ⟨W0, hW0⟩ : ∃ W, Hid (w.alloc (.cells #[.slice a L acap] 25) = W) := ⟨_, hide rfl⟩
  rw [unhide hW0] at HB0 HA HX
  rw [unhide hq] at HX
  have c0 := (blk_cells (unhide HX)).1 0
  have hql := (blk_cells (unhide HX)).2.2
  clear ha HX
  go_enter Tryz.func12, Tryz.ntmps12
  go_wp2_with fail
  rw [unhide hq, unhide hW0]
  clear hW0
  go_loopg [3] L (fun gg t3 wr => ∃ (i : Nat), Hid (i + gg = L) ∧ t3 = .int .i64 (i : Int) ∧ wr = W0 ∧ Hid (cntB (f.take i) = true))
  case atStart => exact ⟨0, by unfold Hid; omega, rfl, rfl, by unfold Hid; rfl⟩
  case round =>
    obtain ⟨i, hi, rfl, rfl, hC⟩ := hrel
    by_cases hlt : i < L
    · have i0 : (0 : Int) ≤ (i : Int) := by omega
      have i1 : (i : Int) < (L : Int) := by omega
      have HLT := hide hlt
      obtain ⟨l, hl⟩ : ∃ l, f[i]? = some l := ⟨_, List.getElem?_eq_getElem (by rw [unhide hL]; exact hlt)⟩
      obtain ⟨b, off, la, lc, rfl, hbl, hrow, hrx, hm1, hm2⟩ := (unhide HA).row hl
      have HSP := hide (fun j s (hs : l[j]? = some s) => hrx.spot hs)
      have HL := hide hl
      obtain ⟨n, hn⟩ : ∃ n, Hid (l.length = n) := ⟨_, hide rfl⟩
      rw [unhide hn] at hrow hm1
      unfold maxLen at hm2
      clear hl hrx
      go_wp2_with fail
      obtain ⟨gko, hgko⟩ : ∃ g, g = gk := ⟨_, rfl⟩
      subst hgko
      go_loopg [4] n (fun gg t4 wr' => ∃ (j : Nat), Hid (j + gg = n) ∧ t4 = .int .i64 (j : Int) ∧ wr' = wr ∧ Hid (cnL (l.take j) = true))
      case atStart => exact ⟨0, by unfold Hid; omega, rfl, rfl, by unfold Hid; rfl⟩
      case round =>
        obtain ⟨j, hj, rfl, rfl, hD⟩ := hrel
        by_cases hjt : j < n
        · have j0 : (0 : Int) ≤ (j : Int) := by omega
          have j1 : (j : Int) < (n : Int) := by omega
          have HJT := hide hjt
          obtain ⟨s, hs⟩ : ∃ s, l[j]? = some s := ⟨_, List.getElem?_eq_getElem (by rw [unhide hn]; exact hjt)⟩
          obtain ⟨sb, so, rfl, hsl, s0, -, -, -⟩ := unhide HSP j s hs
          have HS := hide hs
          clear hs
          by_cases hc : s.c < 0
          · have d1 : decide (s.c < 0) = true := decide_eq_true hc
            have HN : Hid (an = false) := by unfold Hid; rw [← unhide han]; exact cntB_no (unhide HL) (unhide HS) hc
            clear hc hD hC
            go_wp2_with fail
            go_ret
            rw [unhide HN]
            exact ⟨rfl, unhide HB0⟩
          · have d1 : decide (s.c < 0) = false := decide_eq_false hc
            have HY := hide (cnL_more (unhide HS) (by omega) (unhide hD))
            clear hc hD
            go_wp2_with fail
            go_roundg (gk - 1)
            case measure => have := unhide hj; have := unhide HJT; omega
            case rel => exact ⟨j + 1, by have h1 := unhide hj; have h2 := unhide HJT; unfold Hid; omega, by go_num, rfl, HY⟩
        · have hj0 : j = n := by have := unhide hj; omega
          subst hj0
          have HY := hide (cntB_more (unhide HL) (by have := unhide hD; rw [← unhide hn, List.take_length] at this; exact this) (unhide hC))
          clear hD hC
          go_wp2_with fail
          go_roundg (gko - 1)
          case measure => have := unhide hi; have := unhide HLT; omega
          case rel => exact ⟨i + 1, by have h1 := unhide hi; have h2 := unhide HLT; unfold Hid; omega, by go_num, rfl, HY⟩
    · have hi0 : i = L := by have := unhide hi; omega
      subst hi0
      have HY : Hid (an = true) := by
        unfold Hid
        have := unhide hC
        rw [← unhide hL, List.take_length] at this
        rw [← unhide han]
        exact this
      clear hC
      go_wp2_with fail
      go_ret
      rw [unhide HY]
      exact ⟨rfl, unhide HB0⟩
end Go.Proofs.YtclcebdcdbcpjaaGreat
namespace Go.Proofs.YtclcebdcdbcpjaaGreat
open Go.RowKit
set_option linter.unusedVariables false
set_option linter.unusedSimpArgs false
/-- Lists up to so many. -/
def Bd (f : List (List Sp)) : Prop := OkF f ∧ f.length ≤ 5864062014634 ∧ ∀ l ∈ f, l.length ≤ 5864062014634
theorem Bd.mrg {f g : List (List Sp)} (hf : Bd f) (hg : Bd g) : Bd (mrg f g) := ⟨mrg_okF hf.1 hg.1, by rw [mrg_len]; have := hf.2.1; have := hg.2.1; omega, mrg_rows hf.2.2 hg.2.2⟩
theorem Bd.nil : Bd [] := ⟨fun l hl => by simp at hl, by simp, fun l hl => by simp at hl⟩
theorem blk3w (w : World) (o1 o2 o3 : Obj) : (((w.alloc o1).alloc o2).alloc o3).heap[w.heap.size]? = some o1 ∧ (((w.alloc o1).alloc o2).alloc o3).heap[w.heap.size + 1]? = some o2 ∧ (((w.alloc o1).alloc o2).alloc o3).heap[w.heap.size + 2]? = some o3 := by
  have s1 : (w.alloc o1).heap.size = w.heap.size + 1 := World.size_alloc _ _
  have s2 : ((w.alloc o1).alloc o2).heap.size = w.heap.size + 2 := by rw [World.size_alloc, s1]
  refine ⟨?_, ?_, ?_⟩
  · rw [Below.heap_alloc _ _ _ (by omega), Below.heap_alloc _ _ _ (by omega)]; exact heap_alloc_new w o1
  · rw [Below.heap_alloc _ _ _ (by omega), ← s1]; exact heap_alloc_new _ o2
  · rw [← s2]; exact heap_alloc_new _ o3
set_option maxRecDepth 100000 in
set_option maxHeartbeats 12800000 in
theorem meetsLaw {w : World} {av bv cv : Value} {fa fb fc : List (List Sp)} (ha : PfV w av fa) (hb : PfV w bv fb) (hc : PfV w cv fc) (ka : Bd fa) (kb : Bd fb) (kc : Bd fc) :
    Calls Tryz.prog 4 #[.agg #[av], .agg #[bv], .agg #[cv]] w fun e w' => e = .returned (.bool true) ∧ Below w.heap.size w w' := by
  obtain ⟨aa, ac, rfl, _, _⟩ := ha.shape
  obtain ⟨ba, bc, rfl, _, _⟩ := hb.shape
  obtain ⟨ca, cc, rfl, _, _⟩ := hc.shape
  have HA := hide (fun W (hW : Below w.heap.size w W) => ha.below hW (Nat.le_refl _))
  have HB := hide (fun W (hW : Below w.heap.size w W) => hb.below hW (Nat.le_refl _))
  have HC := hide (fun W (hW : Below w.heap.size w W) => hc.below hW (Nat.le_refl _))
  obtain ⟨an, han⟩ : ∃ n, Hid (fa.length = n) := ⟨_, hide rfl⟩
  obtain ⟨bn, hbn⟩ : ∃ n, Hid (fb.length = n) := ⟨_, hide rfl⟩
  obtain ⟨cn, hcn⟩ : ∃ n, Hid (fc.length = n) := ⟨_, hide rfl⟩
  rw [unhide han] at HA ⊢
  rw [unhide hbn] at HB ⊢
  rw [unhide hcn] at HC ⊢
  have HBa := hide ka
  have HBb := hide kb
  have HBc := hide kc
  have HBn := hide Bd.nil
  have HBx := hide (ka.mrg kb)
  have HBy := hide (kb.mrg kc)
  clear ha hb hc ka kb kc
  -- merge, told by its list
  have HMGw : Hid (∀ (V : World) (u v : Value) (f g : List (List Sp)), PfV V u f → PfV V v g → Bd f → Bd g → Calls Tryz.prog 10 #[.agg #[u], .agg #[v]] V fun e V' => ∃ ra rn rc, e = .returned (.agg #[.slice ra rn rc]) ∧ Hid (PfV V' (.slice ra rn rc) (mrg f g)) ∧ Below V.heap.size V V') := fun V u v f g h1 h2 k1 k2 => (merge_any h1 h2 k1.2.1 k1.2.2 k2.2.1 k2.2.2 k1.1 k2.1).mono (fun e V' ⟨gv, vs, he, ho, hbl⟩ => by
    obtain ⟨ra, rc, er, _, _⟩ := (OW.pf ho).shape
    refine ⟨ra, (mrg f g).length, rc, ?_, ?_, hbl⟩
    · rw [he, er]
    · rw [← er]; exact OW.pf ho)
  obtain ⟨q, hq⟩ : ∃ q, Hid (w.heap.size = q) := ⟨_, hide rfl⟩
  obtain ⟨W0, hW0⟩ : ∃ W, Hid (((w.alloc (.cells #[.slice aa an ac] 25)).alloc (.cells #[.slice ba bn bc] 25)).alloc (.cells #[.slice ca cn cc] 25) = W) := ⟨_, hide rfl⟩
  have HB0 : Hid (Below w.heap.size w W0) := by unfold Hid; rw [← unhide hW0]; exact Below.alloc3 w _ _ _
  have hbk := blk3w w (.cells #[.slice aa an ac] 25) (.cells #[.slice ba bn bc] 25) (.cells #[.slice ca cn cc] 25)
  rw [unhide hW0, unhide hq] at hbk
  obtain ⟨k0, k1, k2⟩ := hbk
  have c0 := (blk_cells k0).1 0
  have c1 := (blk_cells k1).1 0
  have l0 := (blk_cells k0).2.2
  have l1 := (blk_cells k1).2.2
  have HK := hide (And.intro k0 (And.intro k1 k2))
  clear k0 k1 k2
  go_enter Tryz.func4, Tryz.ntmps4
  go_wp2_with fail
  rw [unhide hq]
  (try rw [show q + 1 + 1 = q + 2 from rfl])
  rw [unhide hW0]
  clear hW0
  go_wp2_with fail
  refine (unhide HMGw _ _ _ fa fb (unhide HA _ (unhide HB0)) (unhide HB _ (unhide HB0)) (unhide HBa) (unhide HBb)).mono ?_
  rintro e w1 ⟨xa, xn, xc, rfl, HPX, hb1⟩
  clear c0 c1 l0 l1
  go_wp2_with fail
  obtain ⟨xb, hxb⟩ : ∃ b, Hid (w1.heap.size = b) := ⟨_, hide rfl⟩
  obtain ⟨X, hX⟩ : ∃ X, Hid (w1.alloc (.cells #[.slice xa xn xc] 25) = X) := ⟨_, hide rfl⟩
  have hb1X : Below w1.heap.size w1 X := by rw [← unhide hX]; exact (Below.refl _ w1).alloc (Nat.le_refl _) _
  have hb0X : Below W0.heap.size W0 X := hb1.trans (hb1X.mono hb1.size)
  have HBX : Hid (Below w.heap.size w X) := (unhide HB0).trans (hb0X.mono (unhide HB0).size)
  have HX0 : Hid (Below X.heap.size X X.drew) := ⟨rfl, rfl, rfl, Nat.le_refl _, fun _ _ => rfl⟩
  have hxx : X.heap[xb]? = some (.cells #[.slice xa xn xc] 25) := by rw [← unhide hX, ← unhide hxb]; exact heap_alloc_new w1 _
  have HU : Hid (∀ V, Below X.heap.size X V → V.cell? ⟨q, 0, none⟩ = some (.slice aa an ac) ∧ V.cell? ⟨q + 1, 0, none⟩ = some (.slice ba bn bc) ∧ V.cell? ⟨q + 2, 0, none⟩ = some (.slice ca cn cc) ∧ V.cell? ⟨xb, 0, none⟩ = some (.slice xa xn xc)) := fun V hV => by
    obtain ⟨k0, k1, k2⟩ := unhide HK
    have s0 := (blk_cells k0).2.2
    have s1 := (blk_cells k1).2.2
    have s2 := (blk_cells k2).2.2
    have sx := (blk_cells hxx).2.2
    have z := hb0X.size
    exact ⟨(blk_cells ((hV.block q (by omega)).trans ((hb0X.block q s0).trans k0))).1 0, (blk_cells ((hV.block (q + 1) (by omega)).trans ((hb0X.block (q + 1) s1).trans k1))).1 0, (blk_cells ((hV.block (q + 2) (by omega)).trans ((hb0X.block (q + 2) s2).trans k2))).1 0, (blk_cells ((hV.block xb sx).trans hxx)).1 0⟩
  have HWV : Hid (∀ V, Below X.heap.size X V → Below w.heap.size w V) := fun V hV => (unhide HBX).trans (hV.mono (unhide HBX).size)
  have HPVa : Hid (∀ V, Below X.heap.size X V → PfV V (.slice aa an ac) fa) := fun V hV => unhide HA V (unhide HWV V hV)
  have HPVb : Hid (∀ V, Below X.heap.size X V → PfV V (.slice ba bn bc) fb) := fun V hV => unhide HB V (unhide HWV V hV)
  have HPVc : Hid (∀ V, Below X.heap.size X V → PfV V (.slice ca cn cc) fc) := fun V hV => unhide HC V (unhide HWV V hV)
  have HPVx : Hid (∀ V, Below X.heap.size X V → PfV V (.slice xa xn xc) (mrg fa fb)) := fun V hV => ((unhide HPX).below hb1X (Nat.le_refl _)).below hV (Nat.le_refl _)
  have HMG : Hid (∀ (V : World) (u v : Value) (f g : List (List Sp)), Below X.heap.size X V → PfV V u f → PfV V v g → Bd f → Bd g → Calls Tryz.prog 10 #[.agg #[u], .agg #[v]] V fun e V' => ∃ ra rn rc, e = .returned (.agg #[.slice ra rn rc]) ∧ Hid (PfV V' (.slice ra rn rc) (mrg f g)) ∧ Hid (Below X.heap.size X V') ∧ Hid (Below V.heap.size V V')) := fun V u v f g hV h1 h2 k1 k2 => (unhide HMGw V u v f g h1 h2 k1 k2).mono (fun e V' ⟨ra, rn, rc, h1, h2, h3⟩ => ⟨ra, rn, rc, h1, h2, hV.trans (h3.mono hV.size), h3⟩)
  have HSM : Hid (∀ (V : World) (u v : Value) (f g : List (List Sp)), Below X.heap.size X V → PfV V u f → PfV V v g → Calls Tryz.prog 11 #[.agg #[u], .agg #[v]] V fun e V' => e = .returned (.bool (Dc (f = g))) ∧ Hid (Below X.heap.size X V')) := fun V u v f g hV h1 h2 => (sameP_any h1 h2).mono (fun e V' ⟨h1, h3⟩ => ⟨h1, hV.trans (h3.mono hV.size)⟩)
  have HCN : Hid (∀ (V : World) (u : Value) (f : List (List Sp)), Below X.heap.size X V → PfV V u f → Calls Tryz.prog 12 #[.agg #[u]] V fun e V' => e = .returned (.bool (cntB f)) ∧ Hid (Below X.heap.size X V')) := fun V u f hV h1 => (counted_any h1).mono (fun e V' ⟨h1, h3⟩ => ⟨h1, hV.trans (h3.mono hV.size)⟩)
  have HSH : Hid (∀ V, Below X.heap.size X V → Calls Tryz.prog 7 #[] V fun e V' => e = .returned (.bool true) ∧ Hid (Below X.heap.size X V')) := fun V hV => (shown_any V).mono (fun e V' ⟨h1, h3⟩ => ⟨h1, hV.trans (h3.mono hV.size)⟩)
  have HE1 : Hid (mrg fa fb = mrg fb fa) := mrg_comm (unhide HBa).1 (unhide HBb).1
  have HE2 : Hid (mrg fa [] = fa) := mrg_right (unhide HBa).1
  have HE3 : Hid (mrg [] fa = fa) := mrg_left (unhide HBa).1
  have HE4 : Hid (cntB fa = true → cntB fb = true → cntB fc = true → mrg (mrg fa fb) fc = mrg fa (mrg fb fc)) := fun h1 h2 h3 => mrg_assoc (unhide HBa).1 (unhide HBb).1 (unhide HBc).1 h1 h2 h3
  rw [unhide hxb, unhide hX]
  clear hX hxx hb0X hb1X hb1 HPX HK HA HB HC HMGw
  refine wp_region_held_drew (S := (fun V => Below X.heap.size X V)) (by kernel_rfl) (unhide HX0) (fun hHeld => ?_)
  clear hHeld
  refine wpAnyH_take (i := 0) (oi := _) (v := .agg #[.slice xa xn xc]) rfl (by kernel_rfl) (by kernel_rfl) (by kernel_rfl) (fun _ _ _ h => h) (Or.inl ⟨by rfl, (by intro w' hSw; obtain ⟨x0, x1, x2, x3⟩ := unhide HU w' hSw; go_simp)⟩) (unhide HX0) ?_
  go_simp
  refine wpAnyH_take (i := 1) (oi := _) (v := .agg #[.slice ba bn bc]) rfl (by kernel_rfl) (by kernel_rfl) (by kernel_rfl) (fun _ _ _ h => h) (Or.inl ⟨by rfl, (by intro w' hSw; obtain ⟨x0, x1, x2, x3⟩ := unhide HU w' hSw; go_simp)⟩) (unhide HX0) ?_
  go_simp
  refine wpAnyH_take (i := 2) (oi := _) (v := .agg #[.slice aa an ac]) rfl (by kernel_rfl) (by kernel_rfl) (by kernel_rfl) (fun _ _ _ h => h) (Or.inl ⟨by rfl, (by intro w' hSw; obtain ⟨x0, x1, x2, x3⟩ := unhide HU w' hSw; go_simp)⟩) (unhide HX0) ?_
  go_simp
  refine wpAnyH_ready (rs := [3]) (by kernel_rfl) (by simp) ?_
  refine AllReadyH.cons (o := _) rfl (fun K hK => ?_) AllReadyH.nil
  go_simp
  refine (unhide HMG _ _ _ fb fa (unhide HX0) (unhide HPVb _ (unhide HX0)) (unhide HPVa _ (unhide HX0)) ?_ ?_).mono ?_
  · exact unhide HBb
  · exact unhide HBa
  rintro e V1 ⟨ma, mn, mc, rfl, HPm, HBV1, -⟩
  go_simp
  refine hK.out _ _ (unhide HBV1) (fun _ => ?_)
  clear hK K
  go_simp
  refine wpAnyH_ready (rs := [4]) (by kernel_rfl) (by simp) ?_
  refine AllReadyH.cons (o := _) rfl (fun K hK => ?_) AllReadyH.nil
  go_simp
  refine (unhide HSM _ _ _ (mrg fa fb) (mrg fb fa) (unhide HBV1) (unhide HPVx _ (unhide HBV1)) (unhide HPm)).mono ?_
  rintro e V2 ⟨rfl, HBV2⟩
  rw [Dc_true (by exact unhide HE1 : (mrg fa fb) = (mrg fb fa))]
  go_simp
  refine hK.out _ _ (unhide HBV2) (fun _ => ?_)
  clear hK K
  go_simp
  refine wpAnyH_take (i := 5) (oi := _) (v := .bool false) rfl (by kernel_rfl) (by kernel_rfl) (by kernel_rfl) (fun _ _ _ h => h) (Or.inl ⟨by rfl, (by intro w' hSw; obtain ⟨x0, x1, x2, x3⟩ := unhide HU w' hSw; go_simp)⟩) (unhide HBV2) ?_
  go_simp
  refine wpAnyH_take (i := 6) (oi := _) (v := .bool false) rfl (by kernel_rfl) (by kernel_rfl) (by kernel_rfl) (fun _ _ _ h => h) (Or.inl ⟨by rfl, (by intro w' hSw; obtain ⟨x0, x1, x2, x3⟩ := unhide HU w' hSw; go_simp)⟩) (unhide HBV2) ?_
  go_simp
  refine wpAnyH_take (i := 7) (oi := _) (v := .agg #[.slice aa an ac]) rfl (by kernel_rfl) (by kernel_rfl) (by kernel_rfl) (fun _ _ _ h => h) (Or.inl ⟨by rfl, (by intro w' hSw; obtain ⟨x0, x1, x2, x3⟩ := unhide HU w' hSw; go_simp)⟩) (unhide HBV2) ?_
  go_simp
  refine wpAnyH_take (i := 8) (oi := _) (v := .agg #[.slice none 0 0]) rfl (by kernel_rfl) (by kernel_rfl) (by kernel_rfl) (fun _ _ _ h => h) (Or.inl ⟨by rfl, (by intro w' hSw; obtain ⟨x0, x1, x2, x3⟩ := unhide HU w' hSw; go_simp)⟩) (unhide HBV2) ?_
  go_simp
  refine wpAnyH_take (i := 10) (oi := _) (v := .agg #[.slice aa an ac]) rfl (by kernel_rfl) (by kernel_rfl) (by kernel_rfl) (fun _ _ _ h => h) (Or.inl ⟨by rfl, (by intro w' hSw; obtain ⟨x0, x1, x2, x3⟩ := unhide HU w' hSw; go_simp)⟩) (unhide HBV2) ?_
  go_simp
  refine wpAnyH_ready (rs := [9]) (by kernel_rfl) (by simp) ?_
  refine AllReadyH.cons (o := _) rfl (fun K hK => ?_) AllReadyH.nil
  go_simp
  refine (unhide HMG _ _ _ fa [] (unhide HBV2) (unhide HPVa _ (unhide HBV2)) (PfV.nil _) ?_ ?_).mono ?_
  · exact unhide HBa
  · exact unhide HBn
  rintro e V3 ⟨na, nn, nc, rfl, HPn, HBV3, -⟩
  go_simp
  refine hK.out _ _ (unhide HBV3) (fun _ => ?_)
  clear hK K
  go_simp
  refine wpAnyH_ready (rs := [11]) (by kernel_rfl) (by simp) ?_
  refine AllReadyH.cons (o := _) rfl (fun K hK => ?_) AllReadyH.nil
  go_simp
  refine (unhide HSM _ _ _ (mrg fa []) fa (unhide HBV3) (unhide HPn) (unhide HPVa _ (unhide HBV3))).mono ?_
  rintro e V4 ⟨rfl, HBV4⟩
  rw [Dc_true (by exact unhide HE2 : (mrg fa []) = fa)]
  go_simp
  refine hK.out _ _ (unhide HBV4) (fun _ => ?_)
  clear hK K
  go_simp
  refine wpAnyH_take (i := 12) (oi := _) (v := .bool false) rfl (by kernel_rfl) (by kernel_rfl) (by kernel_rfl) (fun _ _ _ h => h) (Or.inl ⟨by rfl, (by intro w' hSw; obtain ⟨x0, x1, x2, x3⟩ := unhide HU w' hSw; go_simp)⟩) (unhide HBV4) ?_
  go_simp
  refine wpAnyH_take (i := 13) (oi := _) (v := .bool false) rfl (by kernel_rfl) (by kernel_rfl) (by kernel_rfl) (fun _ _ _ h => h) (Or.inl ⟨by rfl, (by intro w' hSw; obtain ⟨x0, x1, x2, x3⟩ := unhide HU w' hSw; go_simp)⟩) (unhide HBV4) ?_
  go_simp
  refine wpAnyH_take (i := 14) (oi := _) (v := .bool false) rfl (by kernel_rfl) (by kernel_rfl) (by kernel_rfl) (fun _ _ _ h => h) (Or.inl ⟨by rfl, (by intro w' hSw; obtain ⟨x0, x1, x2, x3⟩ := unhide HU w' hSw; go_simp)⟩) (unhide HBV4) ?_
  go_simp
  refine wpAnyH_take (i := 15) (oi := _) (v := .agg #[.slice none 0 0]) rfl (by kernel_rfl) (by kernel_rfl) (by kernel_rfl) (fun _ _ _ h => h) (Or.inl ⟨by rfl, (by intro w' hSw; obtain ⟨x0, x1, x2, x3⟩ := unhide HU w' hSw; go_simp)⟩) (unhide HBV4) ?_
  go_simp
  refine wpAnyH_take (i := 16) (oi := _) (v := .agg #[.slice aa an ac]) rfl (by kernel_rfl) (by kernel_rfl) (by kernel_rfl) (fun _ _ _ h => h) (Or.inl ⟨by rfl, (by intro w' hSw; obtain ⟨x0, x1, x2, x3⟩ := unhide HU w' hSw; go_simp)⟩) (unhide HBV4) ?_
  go_simp
  refine wpAnyH_take (i := 18) (oi := _) (v := .agg #[.slice aa an ac]) rfl (by kernel_rfl) (by kernel_rfl) (by kernel_rfl) (fun _ _ _ h => h) (Or.inl ⟨by rfl, (by intro w' hSw; obtain ⟨x0, x1, x2, x3⟩ := unhide HU w' hSw; go_simp)⟩) (unhide HBV4) ?_
  go_simp
  refine wpAnyH_ready (rs := [17]) (by kernel_rfl) (by simp) ?_
  refine AllReadyH.cons (o := _) rfl (fun K hK => ?_) AllReadyH.nil
  go_simp
  refine (unhide HMG _ _ _ [] fa (unhide HBV4) (PfV.nil _) (unhide HPVa _ (unhide HBV4)) ?_ ?_).mono ?_
  · exact unhide HBn
  · exact unhide HBa
  rintro e V5 ⟨oa, on, oc, rfl, HPo, HBV5, -⟩
  go_simp
  refine hK.out _ _ (unhide HBV5) (fun _ => ?_)
  clear hK K
  go_simp
  refine wpAnyH_ready (rs := [19]) (by kernel_rfl) (by simp) ?_
  refine AllReadyH.cons (o := _) rfl (fun K hK => ?_) AllReadyH.nil
  go_simp
  refine (unhide HSM _ _ _ (mrg [] fa) fa (unhide HBV5) (unhide HPo) (unhide HPVa _ (unhide HBV5))).mono ?_
  rintro e V6 ⟨rfl, HBV6⟩
  rw [Dc_true (by exact unhide HE3 : (mrg [] fa) = fa)]
  go_simp
  refine hK.out _ _ (unhide HBV6) (fun _ => ?_)
  clear hK K
  go_simp
  refine wpAnyH_take (i := 20) (oi := _) (v := .bool false) rfl (by kernel_rfl) (by kernel_rfl) (by kernel_rfl) (fun _ _ _ h => h) (Or.inl ⟨by rfl, (by intro w' hSw; obtain ⟨x0, x1, x2, x3⟩ := unhide HU w' hSw; go_simp)⟩) (unhide HBV6) ?_
  go_simp
  refine wpAnyH_take (i := 21) (oi := _) (v := .bool false) rfl (by kernel_rfl) (by kernel_rfl) (by kernel_rfl) (fun _ _ _ h => h) (Or.inl ⟨by rfl, (by intro w' hSw; obtain ⟨x0, x1, x2, x3⟩ := unhide HU w' hSw; go_simp)⟩) (unhide HBV6) ?_
  go_simp
  refine wpAnyH_done (by kernel_rfl) ?_ _

  go_simp
  clear HE1 HE2 HE3
  obtain ⟨x0, x1, x2, x3⟩ := unhide HU _ (unhide HBV6)
  go_wp2_with fail
  refine (unhide HCN _ _ fa (unhide HBV6) (unhide HPVa _ (unhide HBV6))).mono ?_
  rintro e C1 ⟨rfl, HBC1⟩
  clear x0 x1 x2 x3
  cases hca : cntB fa with
  | false =>
    go_wp2_with fail
    refine (unhide HSH _ (unhide HBC1)).mono ?_
    rintro e VZ ⟨rfl, HBVZ⟩
    go_wp2_with fail
    go_ret
    exact ⟨rfl, unhide HWV _ (unhide HBVZ)⟩
  | true =>
    have HCA := hide hca
    clear hca
    obtain ⟨x0, x1, x2, x3⟩ := unhide HU _ (unhide HBC1)
    go_wp2_with fail
    refine (unhide HCN _ _ fb (unhide HBC1) (unhide HPVb _ (unhide HBC1))).mono ?_
    rintro e C2 ⟨rfl, HBC2⟩
    clear x0 x1 x2 x3
    cases hcb : cntB fb with
    | false =>
      go_wp2_with fail
      refine (unhide HSH _ (unhide HBC2)).mono ?_
      rintro e VZ ⟨rfl, HBVZ⟩
      go_wp2_with fail
      go_ret
      exact ⟨rfl, unhide HWV _ (unhide HBVZ)⟩
    | true =>
      have HCB := hide hcb
      clear hcb
      obtain ⟨x0, x1, x2, x3⟩ := unhide HU _ (unhide HBC2)
      go_wp2_with fail
      refine (unhide HCN _ _ fc (unhide HBC2) (unhide HPVc _ (unhide HBC2))).mono ?_
      rintro e C3 ⟨rfl, HBC3⟩
      clear x0 x1 x2 x3
      cases hcc : cntB fc with
      | false =>
        go_wp2_with fail
        refine (unhide HSH _ (unhide HBC3)).mono ?_
        rintro e VZ ⟨rfl, HBVZ⟩
        go_wp2_with fail
        go_ret
        exact ⟨rfl, unhide HWV _ (unhide HBVZ)⟩
      | true =>
        replace HE4 := hide (unhide HE4 (unhide HCA) (unhide HCB) hcc)
        clear hcc
        go_wp2_with fail
        have HXL : Hid (Below X.heap.size X C3.drew) := by have h := unhide HBC3; exact ⟨h.1, h.2, h.3, h.4, h.5⟩
        refine wp_region_held_drew (S := (fun V => Below X.heap.size X V)) (by kernel_rfl) (unhide HXL) (fun hHeld => ?_)
        clear hHeld
        refine wpAnyH_take (i := 0) (oi := _) (v := .agg #[.slice xa xn xc]) rfl (by kernel_rfl) (by kernel_rfl) (by kernel_rfl) (fun _ _ _ h => h) (Or.inl ⟨by rfl, (by intro w' hSw; obtain ⟨x0, x1, x2, x3⟩ := unhide HU w' hSw; go_simp)⟩) (unhide HXL) ?_
        go_simp
        refine wpAnyH_take (i := 1) (oi := _) (v := .agg #[.slice ca cn cc]) rfl (by kernel_rfl) (by kernel_rfl) (by kernel_rfl) (fun _ _ _ h => h) (Or.inl ⟨by rfl, (by intro w' hSw; obtain ⟨x0, x1, x2, x3⟩ := unhide HU w' hSw; go_simp)⟩) (unhide HXL) ?_
        go_simp
        refine wpAnyH_take (i := 3) (oi := _) (v := .agg #[.slice aa an ac]) rfl (by kernel_rfl) (by kernel_rfl) (by kernel_rfl) (fun _ _ _ h => h) (Or.inl ⟨by rfl, (by intro w' hSw; obtain ⟨x0, x1, x2, x3⟩ := unhide HU w' hSw; go_simp)⟩) (unhide HXL) ?_
        go_simp
        refine wpAnyH_take (i := 4) (oi := _) (v := .agg #[.slice ba bn bc]) rfl (by kernel_rfl) (by kernel_rfl) (by kernel_rfl) (fun _ _ _ h => h) (Or.inl ⟨by rfl, (by intro w' hSw; obtain ⟨x0, x1, x2, x3⟩ := unhide HU w' hSw; go_simp)⟩) (unhide HXL) ?_
        go_simp
        refine wpAnyH_take (i := 5) (oi := _) (v := .agg #[.slice ca cn cc]) rfl (by kernel_rfl) (by kernel_rfl) (by kernel_rfl) (fun _ _ _ h => h) (Or.inl ⟨by rfl, (by intro w' hSw; obtain ⟨x0, x1, x2, x3⟩ := unhide HU w' hSw; go_simp)⟩) (unhide HXL) ?_
        go_simp
        refine wpAnyH_ready (rs := [2]) (by kernel_rfl) (by simp) ?_
        refine AllReadyH.cons (o := _) rfl (fun K hK => ?_) AllReadyH.nil
        go_simp
        refine (unhide HMG _ _ _ (mrg fa fb) fc (unhide HXL) (unhide HPVx _ (unhide HXL)) (unhide HPVc _ (unhide HXL)) ?_ ?_).mono ?_
        · exact unhide HBx
        · exact unhide HBc
        rintro e V7 ⟨pa, pn, pc, rfl, HPp, HBV7, HNV7⟩
        go_simp
        refine hK.out _ _ (unhide HBV7) (fun _ => ?_)
        clear hK K
        go_simp
        refine wpAnyH_ready (rs := [6]) (by kernel_rfl) (by simp) ?_
        refine AllReadyH.cons (o := _) rfl (fun K hK => ?_) AllReadyH.nil
        go_simp
        refine (unhide HMG _ _ _ fb fc (unhide HBV7) (unhide HPVb _ (unhide HBV7)) (unhide HPVc _ (unhide HBV7)) ?_ ?_).mono ?_
        · exact unhide HBb
        · exact unhide HBc
        rintro e V8 ⟨qa, qn, qc, rfl, HPq, HBV8, HNV8⟩
        go_simp
        refine hK.out _ _ (unhide HBV8) (fun _ => ?_)
        clear hK K
        go_simp
        refine wpAnyH_ready (rs := [7]) (by kernel_rfl) (by simp) ?_
        refine AllReadyH.cons (o := _) rfl (fun K hK => ?_) AllReadyH.nil
        go_simp
        refine (unhide HMG _ _ _ fa (mrg fb fc) (unhide HBV8) (unhide HPVa _ (unhide HBV8)) (unhide HPq) ?_ ?_).mono ?_
        · exact unhide HBa
        · exact unhide HBy
        rintro e V9 ⟨ra, rn, rc, rfl, HPr, HBV9, HNV9⟩
        go_simp
        refine hK.out _ _ (unhide HBV9) (fun _ => ?_)
        clear hK K
        go_simp
        have HPp2 : Hid (PfV V9 (.slice pa pn pc) (mrg (mrg fa fb) fc)) := ((unhide HPp).below (unhide HNV8) (Nat.le_refl _)).below (unhide HNV9) (Nat.le_refl _)
        refine wpAnyH_ready (rs := [8]) (by kernel_rfl) (by simp) ?_
        refine AllReadyH.cons (o := _) rfl (fun K hK => ?_) AllReadyH.nil
        go_simp
        refine (unhide HSM _ _ _ (mrg (mrg fa fb) fc) (mrg fa (mrg fb fc)) (unhide HBV9) (unhide HPp2) (unhide HPr)).mono ?_
        rintro e V10 ⟨rfl, HBV10⟩
        rw [Dc_true (by exact unhide HE4 : (mrg (mrg fa fb) fc) = (mrg fa (mrg fb fc)))]
        go_simp
        refine hK.out _ _ (unhide HBV10) (fun _ => ?_)
        clear hK K
        go_simp
        refine wpAnyH_take (i := 9) (oi := _) (v := .bool true) rfl (by kernel_rfl) (by kernel_rfl) (by kernel_rfl) (fun _ _ _ h => h) (Or.inl ⟨by rfl, (by intro w' hSw; obtain ⟨x0, x1, x2, x3⟩ := unhide HU w' hSw; go_simp)⟩) (unhide HBV10) ?_
        go_simp
        refine wpAnyH_ready (rs := [10]) (by kernel_rfl) (by simp) ?_
        refine AllReadyH.cons (o := _) rfl (fun K hK => ?_) AllReadyH.nil
        go_simp
        refine (unhide HSH _ (unhide HBV10)).mono ?_
        rintro e VZ ⟨rfl, HBVZ⟩
        go_simp
        refine hK.out _ _ (unhide HBVZ) (fun _ => ?_)
        clear hK K
        go_simp
        refine wpAnyH_take (i := 11) (oi := _) (v := .bool true) rfl (by kernel_rfl) (by kernel_rfl) (by kernel_rfl) (fun _ _ _ h => h) (Or.inl ⟨by rfl, (by intro w' hSw; obtain ⟨x0, x1, x2, x3⟩ := unhide HU w' hSw; go_simp)⟩) (unhide HBVZ) ?_
        go_simp
        refine wpAnyH_take (i := 12) (oi := _) (v := .bool true) rfl (by kernel_rfl) (by kernel_rfl) (by kernel_rfl) (fun _ _ _ h => h) (Or.inl ⟨by rfl, (by intro w' hSw; obtain ⟨x0, x1, x2, x3⟩ := unhide HU w' hSw; go_simp)⟩) (unhide HBVZ) ?_
        go_simp
        refine wpAnyH_done (by kernel_rfl) ?_ _

        go_simp
        go_wp2_with fail
        go_ret
        exact ⟨rfl, unhide HWV _ (unhide HBVZ)⟩
end Go.Proofs.YtclcebdcdbcpjaaGreat
