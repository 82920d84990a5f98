/-
  ProfileCut: its law.
-/
import Derived.Test.YtclcebdcdbcpjaaGreatBk7
import Derived.Test.YtclcebdcdbcpjaaGreatPRm
import Derived.Test.YtclcebdcdbcpjaaGreatPMg
import Derived.Test.YtclcebdcdbcpjaaGreatSh1
namespace Go.Proofs.YtclcebdcdbcpjaaGreat
set_option linter.unusedVariables false
set_option linter.unusedSimpArgs false
theorem orU_nat {a b : Int} (ha : 0 ≤ a ∧ a < 65536) (hb : 0 ≤ b ∧ b < 65536) : orU a b = ((a.toNat ||| b.toNat : Nat) : Int) := by
  unfold orU
  exact u16_or _ _ ha.1 ha.2 hb.1 hb.2
theorem orU_ok {a b : Int} (ha : 0 ≤ a ∧ a < 65536) (hb : 0 ≤ b ∧ b < 65536) : 0 ≤ orU a b ∧ orU a b < 65536 := by
  rw [orU_nat ha hb]
  have h1 : a.toNat < 2 ^ 16 := by omega
  have h2 : b.toNat < 2 ^ 16 := by omega
  have := Nat.or_lt_two_pow h1 h2
  omega
theorem orU_comm {a b : Int} (ha : 0 ≤ a ∧ a < 65536) (hb : 0 ≤ b ∧ b < 65536) : orU a b = orU b a := by
  rw [orU_nat ha hb, orU_nat hb ha, Nat.or_comm]
theorem orU_assoc {a b c : Int} (ha : 0 ≤ a ∧ a < 65536) (hb : 0 ≤ b ∧ b < 65536) (hc : 0 ≤ c ∧ c < 65536) : orU (orU a b) c = orU a (orU b c) := by
  rw [orU_nat (orU_ok ha hb) hc, orU_nat ha (orU_ok hb hc), orU_nat ha hb, orU_nat hb hc, Int.toNat_natCast, Int.toNat_natCast, Nat.or_assoc]
theorem cnt_comm (a b : Int) : cnt a b = cnt b a := by unfold cnt; rw [Int.add_comm]
theorem cnt_ok (a b : Int) : -9223372036854775808 ≤ cnt a b ∧ cnt a b < 9223372036854775808 := by unfold cnt; split <;> (try split) <;> omega
theorem cnt_nn {a b : Int} (ha : 0 ≤ a) (hb : 0 ≤ b) : 0 ≤ cnt a b := by unfold cnt; split <;> (try split) <;> omega
theorem cnt_assoc {a b c : Int} (ha : 0 ≤ a) (hb : 0 ≤ b) (hc : 0 ≤ c) : cnt (cnt a b) c = cnt a (cnt b c) := by
  unfold cnt
  repeat' split
  all_goals omega
theorem cal_comm (a b : Int) : cal a b = cal b a := by
  unfold cal
  repeat' split
  all_goals omega
theorem cal_assoc (a b c : Int) : cal (cal a b) c = cal a (cal b c) := by
  unfold cal
  repeat' split
  all_goals omega
theorem cal_ok {a b : Int} (ha : -9223372036854775808 ≤ a ∧ a < 9223372036854775808) (hb : -9223372036854775808 ≤ b ∧ b < 9223372036854775808) : -9223372036854775808 ≤ cal a b ∧ cal a b < 9223372036854775808 := by
  unfold cal
  repeat' split
  all_goals omega
theorem tog_ok {x y : Sp} (hx : okS x) (hy : okS y) : okS (tog x y) := ⟨cnt_ok _ _, orU_ok hx.2.1 hy.2.1, orU_ok hx.2.2.1 hy.2.2.1, cal_ok hx.2.2.2 hy.2.2.2⟩
theorem tog_comm {x y : Sp} (hx : okS x) (hy : okS y) : tog x y = tog y x := by
  unfold tog
  rw [cnt_comm, orU_comm hx.2.1 hy.2.1, orU_comm hx.2.2.1 hy.2.2.1, cal_comm]
theorem tog_assoc {x y z : Sp} (hx : okS x) (hy : okS y) (hz : okS z) (nx : 0 ≤ x.c) (ny : 0 ≤ y.c) (nz : 0 ≤ z.c) : tog (tog x y) z = tog x (tog y z) := by
  unfold tog
  simp only
  rw [cnt_assoc nx ny nz, orU_assoc hx.2.1 hy.2.1 hz.2.1, orU_assoc hx.2.2.1 hy.2.2.1 hz.2.2.1, cal_assoc]
theorem okSz : okS spZ := by unfold okS spZ; simp
theorem szP_none {f : List (List Sp)} {n : Nat} (h : f.length ≤ n) : szP f (n : Int) = 0 := szP_no (.inr (by omega))
theorem atP_none {f : List (List Sp)} {n k : Nat} (h : szP f (n : Int) ≤ k) : atP f (n : Int) (k : Int) = spZ := atP_no (.inr (by omega))
theorem pf_ext {f g : List (List Sp)} (hl : f.length = g.length) (hs : ∀ n : Nat, szP f (n : Int) = szP g (n : Int)) (ha : ∀ n k : Nat, atP f (n : Int) (k : Int) = atP g (n : Int) (k : Int)) : f = g := by
  refine List.ext_getElem? (fun n => ?_)
  cases h1 : f[n]? with
  | none => exact (List.getElem?_eq_none (by rw [← hl]; exact List.getElem?_eq_none_iff.1 h1)).symm
  | some l =>
    have hn := (List.getElem?_eq_some_iff.1 h1).1
    have h2 : g[n]? = some (g[n]'(by omega)) := List.getElem?_eq_getElem (by omega)
    rw [h2]
    obtain ⟨m, hm⟩ : ∃ m, g[n]'(by omega) = m := ⟨_, rfl⟩
    rw [hm] at h2 ⊢
    congr 1
    have e1 : l.length = m.length := by rw [← szP_at h1, ← szP_at h2]; exact hs n
    refine List.ext_getElem e1 (fun k k1 k2 => ?_)
    have a1 := atP_at (f := f) h1 (List.getElem?_eq_getElem k1)
    have a2 := atP_at (f := g) h2 (List.getElem?_eq_getElem k2)
    rw [← a1, ← a2]
    exact ha n k
theorem szP_mrg (f g : List (List Sp)) (n : Nat) : szP (mrg f g) (n : Int) = max (szP f (n : Int)) (szP g (n : Int)) := by
  by_cases h : n < max f.length g.length
  · rw [szP_at (mrg_at h), mrgL_len]
  · rw [szP_none (by rw [mrg_len]; omega), szP_none (by omega), szP_none (by omega)]; rfl
theorem atP_mrg (f g : List (List Sp)) (n k : Nat) : atP (mrg f g) (n : Int) (k : Int) = tog (atP f (n : Int) (k : Int)) (atP g (n : Int) (k : Int)) := by
  by_cases h : k < max (szP f (n : Int)) (szP g (n : Int))
  · have hn : n < max f.length g.length := by
      by_cases q : n < max f.length g.length
      · exact q
      · rw [szP_none (f := f) (by omega), szP_none (f := g) (by omega)] at h; omega
    have h2 : (mrgL f g n)[k]? = some ((mrgL f g n)[k]'(by rw [mrgL_len]; exact h)) := List.getElem?_eq_getElem _
    rw [atP_at (mrg_at hn) h2, ← mrgL_at h2]
  · rw [atP_none (by rw [szP_mrg]; omega), atP_none (by omega), atP_none (by omega), tog_zero okSz]
theorem mrg_comm {f g : List (List Sp)} (hf : OkF f) (hg : OkF g) : mrg f g = mrg g f :=
  pf_ext (by rw [mrg_len, mrg_len, Nat.max_comm]) (fun n => by rw [szP_mrg, szP_mrg, Nat.max_comm]) (fun n k => by rw [atP_mrg, atP_mrg]; exact tog_comm (hf.atP' _ _) (hg.atP' _ _))
theorem szP_nil (n : Int) : szP [] n = 0 := by unfold szP; split <;> simp
theorem atP_nil (n k : Int) : atP [] n k = spZ := by unfold atP; split <;> simp
theorem mrg_left {f : List (List Sp)} (hf : OkF f) : mrg [] f = f :=
  pf_ext (by rw [mrg_len]; simp) (fun n => by rw [szP_mrg, szP_nil]; simp) (fun n k => by rw [atP_mrg, atP_nil]; exact tog_zero (hf.atP' _ _))
theorem mrg_right {f : List (List Sp)} (hf : OkF f) : mrg f [] = f := by rw [mrg_comm hf (fun l hl => by simp at hl)]; exact mrg_left hf
theorem mrg_okF {f g : List (List Sp)} (hf : OkF f) (hg : OkF g) : OkF (mrg f g) := fun l hl s hs => by
  obtain ⟨n, hn, rfl⟩ := List.getElem_of_mem hl
  obtain ⟨k, hk, rfl⟩ := List.getElem_of_mem hs
  have a1 := atP_at (f := mrg f g) (List.getElem?_eq_getElem hn) (List.getElem?_eq_getElem hk)
  rw [← a1, atP_mrg]
  exact tog_ok (hf.atP' _ _) (hg.atP' _ _)
/-- Is no count below 0? -/
def cntB (f : List (List Sp)) : Bool := f.all (fun l => l.all (fun s => decide (0 ≤ s.c)))
theorem cntB_at {f : List (List Sp)} (h : cntB f = true) (n k : Nat) : 0 ≤ (atP f (n : Int) (k : Int)).c := by
  unfold atP
  rw [if_neg (by omega)]
  cases e : f[(n : Int).toNat]? with
  | none => simp [spZ]
  | some l =>
    simp only [Option.getD_some]
    cases e2 : l[(k : Int).toNat]? with
    | none => simp [spZ]
    | some x =>
      simp only [Option.getD_some]
      unfold cntB at h
      rw [List.all_eq_true] at h
      have h1 := h l (List.mem_of_getElem? e)
      rw [List.all_eq_true] at h1
      exact of_decide_eq_true (h1 x (List.mem_of_getElem? e2))
theorem mrg_assoc {f g h : List (List Sp)} (hf : OkF f) (hg : OkF g) (hh : OkF h) (cf : cntB f = true) (cg : cntB g = true) (ch : cntB h = true) : mrg (mrg f g) h = mrg f (mrg g h) :=
  pf_ext (by simp only [mrg_len]; omega) (fun n => by simp only [szP_mrg]; omega) (fun n k => by
    rw [atP_mrg, atP_mrg, atP_mrg, atP_mrg]
    exact tog_assoc (hf.atP' _ _) (hg.atP' _ _) (hh.atP' _ _) (cntB_at cf n k) (cntB_at cg n k) (cntB_at ch n k))
theorem mrg_rows {f g : List (List Sp)} {B : Nat} (hf : ∀ l ∈ f, l.length ≤ B) (hg : ∀ l ∈ g, l.length ≤ B) : ∀ l ∈ mrg f g, l.length ≤ B := fun l hl => by
  obtain ⟨n, hn, rfl⟩ := List.getElem_of_mem hl
  have a1 := szP_at (f := mrg f g) (List.getElem?_eq_getElem hn)
  have h1 := szP_le hf (n : Int)
  have h2 := szP_le hg (n : Int)
  rw [← a1, szP_mrg]
  omega
end Go.Proofs.YtclcebdcdbcpjaaGreat
namespace Go.Proofs.YtclcebdcdbcpjaaGreat
open Go.RowKit
set_option linter.unusedVariables false
set_option linter.unusedSimpArgs false
theorem cntB_no {f : List (List Sp)} {i j : Nat} {l : List Sp} {s : Sp} (hl : f[i]? = some l) (hs : l[j]? = some s) (h : s.c < 0) : cntB f = false := by
  unfold cntB
  rw [List.all_eq_false]
  refine ⟨l, List.mem_of_getElem? hl, ?_⟩
  rw [Bool.not_eq_true, List.all_eq_false]
  exact ⟨s, List.mem_of_getElem? hs, by simp; omega⟩
def cnL (l : List Sp) : Bool := l.all (fun s => decide (0 ≤ s.c))
theorem cnL_more {l : List Sp} {j : Nat} {s : Sp} (hs : l[j]? = some s) (h : 0 ≤ s.c) (k : cnL (l.take j) = true) : cnL (l.take (j + 1)) = true := by
  unfold cnL at *
  rw [List.take_add_one, hs, List.all_append, k]
  simp [h]
theorem cntB_more {f : List (List Sp)} {i : Nat} {l : List Sp} (hl : f[i]? = some l) (h : cnL l = true) (k : cntB (f.take i) = true) : cntB (f.take (i + 1)) = true := by
  unfold cntB at *
  rw [List.take_add_one, hl, List.all_append, k]
  unfold cnL at h
  simp only [Option.toList_some, List.all_cons, List.all_nil, Bool.and_true, Bool.true_and]
  exact h
set_option maxRecDepth 100000 in
set_option maxHeartbeats 3200000 in
theorem counted_any {w : World} {av : Value} {f : List (List Sp)} (ha : PfV w av f) :
    Calls Tryz.prog 12 #[.agg #[av]] w fun e w' => e = .returned (.bool (cntB f)) ∧ Below w.heap.size w w' := by
  obtain ⟨a, acap, rfl, h1, h2⟩ := ha.shape
  have HB0 := hide (box1 w (.slice a f.length acap) 25)
  have HA := hide (ha.below (unhide HB0) (Nat.le_refl _))
  obtain ⟨q, hq⟩ : ∃ q, Hid (w.heap.size = q) := ⟨_, hide rfl⟩
  have HX := hide (heap_alloc_new w (.cells #[.slice a f.length acap] 25))
  obtain ⟨an, han⟩ : ∃ an, Hid (cntB f = an) := ⟨_, hide rfl⟩
  rw [unhide han]
  obtain ⟨L, hL⟩ : ∃ L, Hid (f.length = L) := ⟨_, hide rfl⟩
  rw [unhide hL] at HB0 HA HX h1 ⊢
  unfold maxLen at h2
  obtain ⟨W0, hW0⟩ : ∃ W, Hid (w.alloc (.cells #[.slice a L acap] 25) = W) := ⟨_, hide rfl⟩
  rw [unhide hW0] at HB0 HA HX
  rw [unhide hq] at HX
  have c0 := (blk_cells (unhide HX)).1 0
  have hql := (blk_cells (unhide HX)).2.2
  clear ha HX
  go_enter Tryz.func12, Tryz.ntmps12
  go_wp2_with fail
  rw [unhide hq, unhide hW0]
  clear hW0
  go_loopg [3] L (fun gg t3 wr => ∃ (i : Nat), Hid (i + gg = L) ∧ t3 = .int .i64 (i : Int) ∧ wr = W0 ∧ Hid (cntB (f.take i) = true))
  case atStart => exact ⟨0, by unfold Hid; omega, rfl, rfl, by unfold Hid; rfl⟩
  case round =>
    obtain ⟨i, hi, rfl, rfl, hC⟩ := hrel
    by_cases hlt : i < L
    · have i0 : (0 : Int) ≤ (i : Int) := by omega
      have i1 : (i : Int) < (L : Int) := by omega
      have HLT := hide hlt
      obtain ⟨l, hl⟩ : ∃ l, f[i]? = some l := ⟨_, List.getElem?_eq_getElem (by rw [unhide hL]; exact hlt)⟩
      obtain ⟨b, off, la, lc, rfl, hbl, hrow, hrx, hm1, hm2⟩ := (unhide HA).row hl
      have HSP := hide (fun j s (hs : l[j]? = some s) => hrx.spot hs)
      have HL := hide hl
      obtain ⟨n, hn⟩ : ∃ n, Hid (l.length = n) := ⟨_, hide rfl⟩
      rw [unhide hn] at hrow hm1
      unfold maxLen at hm2
      clear hl hrx
      go_wp2_with fail
      obtain ⟨gko, hgko⟩ : ∃ g, g = gk := ⟨_, rfl⟩
      subst hgko
      go_loopg [4] n (fun gg t4 wr' => ∃ (j : Nat), Hid (j + gg = n) ∧ t4 = .int .i64 (j : Int) ∧ wr' = wr ∧ Hid (cnL (l.take j) = true))
      case atStart => exact ⟨0, by unfold Hid; omega, rfl, rfl, by unfold Hid; rfl⟩
      case round =>
        obtain ⟨j, hj, rfl, rfl, hD⟩ := hrel
        by_cases hjt : j < n
        · have j0 : (0 : Int) ≤ (j : Int) := by omega
          have j1 : (j : Int) < (n : Int) := by omega
          have HJT := hide hjt
          obtain ⟨s, hs⟩ : ∃ s, l[j]? = some s := ⟨_, List.getElem?_eq_getElem (by rw [unhide hn]; exact hjt)⟩
          obtain ⟨sb, so, rfl, hsl, s0, -, -, -⟩ := unhide HSP j s hs
          have HS := hide hs
          clear hs
          by_cases hc : s.c < 0
          · have d1 : decide (s.c < 0) = true := decide_eq_true hc
            have HN : Hid (an = false) := by unfold Hid; rw [← unhide han]; exact cntB_no (unhide HL) (unhide HS) hc
            clear hc hD hC
            go_wp2_with fail
            go_ret
            rw [unhide HN]
            exact ⟨rfl, unhide HB0⟩
          · have d1 : decide (s.c < 0) = false := decide_eq_false hc
            have HY := hide (cnL_more (unhide HS) (by omega) (unhide hD))
            clear hc hD
            go_wp2_with fail
            go_roundg (gk - 1)
            case measure => have := unhide hj; have := unhide HJT; omega
            case rel => exact ⟨j + 1, by have h1 := unhide hj; have h2 := unhide HJT; unfold Hid; omega, by go_num, rfl, HY⟩
        · have hj0 : j = n := by have := unhide hj; omega
          subst hj0
          have HY := hide (cntB_more (unhide HL) (by have := unhide hD; rw [← unhide hn, List.take_length] at this; exact this) (unhide hC))
          clear hD hC
          go_wp2_with fail
          go_roundg (gko - 1)
          case measure => have := unhide hi; have := unhide HLT; omega
          case rel => exact ⟨i + 1, by have h1 := unhide hi; have h2 := unhide HLT; unfold Hid; omega, by go_num, rfl, HY⟩
    · have hi0 : i = L := by have := unhide hi; omega
      subst hi0
      have HY : Hid (an = true) := by
        unfold Hid
        have := unhide hC
        rw [← unhide hL, List.take_length] at this
        rw [← unhide han]
        exact this
      clear hC
      go_wp2_with fail
      go_ret
      rw [unhide HY]
      exact ⟨rfl, unhide HB0⟩
end Go.Proofs.YtclcebdcdbcpjaaGreat
namespace Go.Proofs.YtclcebdcdbcpjaaGreat
open Go.RowKit
set_option linter.unusedVariables false
set_option linter.unusedSimpArgs false
/-- Lists up to so many. -/
def Bd (f : List (List Sp)) : Prop := OkF f ∧ f.length ≤ 5864062014634 ∧ ∀ l ∈ f, l.length ≤ 5864062014634
theorem Bd.mrg {f g : List (List Sp)} (hf : Bd f) (hg : Bd g) : Bd (mrg f g) := ⟨mrg_okF hf.1 hg.1, by rw [mrg_len]; have := hf.2.1; have := hg.2.1; omega, mrg_rows hf.2.2 hg.2.2⟩
theorem Bd.nil : Bd [] := ⟨fun l hl => by simp at hl, by simp, fun l hl => by simp at hl⟩
theorem blk3w (w : World) (o1 o2 o3 : Obj) : (((w.alloc o1).alloc o2).alloc o3).heap[w.heap.size]? = some o1 ∧ (((w.alloc o1).alloc o2).alloc o3).heap[w.heap.size + 1]? = some o2 ∧ (((w.alloc o1).alloc o2).alloc o3).heap[w.heap.size + 2]? = some o3 := by
  have s1 : (w.alloc o1).heap.size = w.heap.size + 1 := World.size_alloc _ _
  have s2 : ((w.alloc o1).alloc o2).heap.size = w.heap.size + 2 := by rw [World.size_alloc, s1]
  refine ⟨?_, ?_, ?_⟩
  · rw [Below.heap_alloc _ _ _ (by omega), Below.heap_alloc _ _ _ (by omega)]; exact heap_alloc_new w o1
  · rw [Below.heap_alloc _ _ _ (by omega), ← s1]; exact heap_alloc_new _ o2
  · rw [← s2]; exact heap_alloc_new _ o3
set_option maxRecDepth 100000 in
set_option maxHeartbeats 12800000 in
theorem meetsLaw {w : World} {av bv cv : Value} {fa fb fc : List (List Sp)} (ha : PfV w av fa) (hb : PfV w bv fb) (hc : PfV w cv fc) (ka : Bd fa) (kb : Bd fb) (kc : Bd fc) :
    Calls Tryz.prog 4 #[.agg #[av], .agg #[bv], .agg #[cv]] w fun e w' => e = .returned (.bool true) ∧ Below w.heap.size w w' := by
  obtain ⟨aa, ac, rfl, _, _⟩ := ha.shape
  obtain ⟨ba, bc, rfl, _, _⟩ := hb.shape
  obtain ⟨ca, cc, rfl, _, _⟩ := hc.shape
  have HA := hide (fun W (hW : Below w.heap.size w W) => ha.below hW (Nat.le_refl _))
  have HB := hide (fun W (hW : Below w.heap.size w W) => hb.below hW (Nat.le_refl _))
  have HC := hide (fun W (hW : Below w.heap.size w W) => hc.below hW (Nat.le_refl _))
  obtain ⟨an, han⟩ : ∃ n, Hid (fa.length = n) := ⟨_, hide rfl⟩
  obtain ⟨bn, hbn⟩ : ∃ n, Hid (fb.length = n) := ⟨_, hide rfl⟩
  obtain ⟨cn, hcn⟩ : ∃ n, Hid (fc.length = n) := ⟨_, hide rfl⟩
  rw [unhide han] at HA ⊢
  rw [unhide hbn] at HB ⊢
  rw [unhide hcn] at HC ⊢
  have HBa := hide ka
  have HBb := hide kb
  have HBc := hide kc
  have HBn := hide Bd.nil
  have HBx := hide (ka.mrg kb)
  have HBy := hide (kb.mrg kc)
  clear ha hb hc ka kb kc
  -- merge, told by its list
  have HMGw : Hid (∀ (V : World) (u v : Value) (f g : List (List Sp)), PfV V u f → PfV V v g → Bd f → Bd g → Calls Tryz.prog 10 #[.agg #[u], .agg #[v]] V fun e V' => ∃ ra rn rc, e = .returned (.agg #[.slice ra rn rc]) ∧ Hid (PfV V' (.slice ra rn rc) (mrg f g)) ∧ Below V.heap.size V V') := fun V u v f g h1 h2 k1 k2 => (merge_any h1 h2 k1.2.1 k1.2.2 k2.2.1 k2.2.2 k1.1 k2.1).mono (fun e V' ⟨gv, vs, he, ho, hbl⟩ => by
    obtain ⟨ra, rc, er, _, _⟩ := (OW.pf ho).shape
    refine ⟨ra, (mrg f g).length, rc, ?_, ?_, hbl⟩
    · rw [he, er]
    · rw [← er]; exact OW.pf ho)
  obtain ⟨q, hq⟩ : ∃ q, Hid (w.heap.size = q) := ⟨_, hide rfl⟩
  obtain ⟨W0, hW0⟩ : ∃ W, Hid (((w.alloc (.cells #[.slice aa an ac] 25)).alloc (.cells #[.slice ba bn bc] 25)).alloc (.cells #[.slice ca cn cc] 25) = W) := ⟨_, hide rfl⟩
  have HB0 : Hid (Below w.heap.size w W0) := by unfold Hid; rw [← unhide hW0]; exact Below.alloc3 w _ _ _
  have hbk := blk3w w (.cells #[.slice aa an ac] 25) (.cells #[.slice ba bn bc] 25) (.cells #[.slice ca cn cc] 25)
  rw [unhide hW0, unhide hq] at hbk
  obtain ⟨k0, k1, k2⟩ := hbk
  have c0 := (blk_cells k0).1 0
  have c1 := (blk_cells k1).1 0
  have l0 := (blk_cells k0).2.2
  have l1 := (blk_cells k1).2.2
  have HK := hide (And.intro k0 (And.intro k1 k2))
  clear k0 k1 k2
  go_enter Tryz.func4, Tryz.ntmps4
  go_wp2_with fail
  rw [unhide hq]
  (try rw [show q + 1 + 1 = q + 2 from rfl])
  rw [unhide hW0]
  clear hW0
  go_wp2_with fail
  refine (unhide HMGw _ _ _ fa fb (unhide HA _ (unhide HB0)) (unhide HB _ (unhide HB0)) (unhide HBa) (unhide HBb)).mono ?_
  rintro e w1 ⟨xa, xn, xc, rfl, HPX, hb1⟩
  clear c0 c1 l0 l1
  go_wp2_with fail
  obtain ⟨xb, hxb⟩ : ∃ b, Hid (w1.heap.size = b) := ⟨_, hide rfl⟩
  obtain ⟨X, hX⟩ : ∃ X, Hid (w1.alloc (.cells #[.slice xa xn xc] 25) = X) := ⟨_, hide rfl⟩
  have hb1X : Below w1.heap.size w1 X := by rw [← unhide hX]; exact (Below.refl _ w1).alloc (Nat.le_refl _) _
  have hb0X : Below W0.heap.size W0 X := hb1.trans (hb1X.mono hb1.size)
  have HBX : Hid (Below w.heap.size w X) := (unhide HB0).trans (hb0X.mono (unhide HB0).size)
  have HX0 : Hid (Below X.heap.size X X.drew) := ⟨rfl, rfl, rfl, Nat.le_refl _, fun _ _ => rfl⟩
  have hxx : X.heap[xb]? = some (.cells #[.slice xa xn xc] 25) := by rw [← unhide hX, ← unhide hxb]; exact heap_alloc_new w1 _
  have HU : Hid (∀ V, Below X.heap.size X V → V.cell? ⟨q, 0, none⟩ = some (.slice aa an ac) ∧ V.cell? ⟨q + 1, 0, none⟩ = some (.slice ba bn bc) ∧ V.cell? ⟨q + 2, 0, none⟩ = some (.slice ca cn cc) ∧ V.cell? ⟨xb, 0, none⟩ = some (.slice xa xn xc)) := fun V hV => by
    obtain ⟨k0, k1, k2⟩ := unhide HK
    have s0 := (blk_cells k0).2.2
    have s1 := (blk_cells k1).2.2
    have s2 := (blk_cells k2).2.2
    have sx := (blk_cells hxx).2.2
    have z := hb0X.size
    exact ⟨(blk_cells ((hV.block q (by omega)).trans ((hb0X.block q s0).trans k0))).1 0, (blk_cells ((hV.block (q + 1) (by omega)).trans ((hb0X.block (q + 1) s1).trans k1))).1 0, (blk_cells ((hV.block (q + 2) (by omega)).trans ((hb0X.block (q + 2) s2).trans k2))).1 0, (blk_cells ((hV.block xb sx).trans hxx)).1 0⟩
  have HWV : Hid (∀ V, Below X.heap.size X V → Below w.heap.size w V) := fun V hV => (unhide HBX).trans (hV.mono (unhide HBX).size)
  have HPVa : Hid (∀ V, Below X.heap.size X V → PfV V (.slice aa an ac) fa) := fun V hV => unhide HA V (unhide HWV V hV)
  have HPVb : Hid (∀ V, Below X.heap.size X V → PfV V (.slice ba bn bc) fb) := fun V hV => unhide HB V (unhide HWV V hV)
  have HPVc : Hid (∀ V, Below X.heap.size X V → PfV V (.slice ca cn cc) fc) := fun V hV => unhide HC V (unhide HWV V hV)
  have HPVx : Hid (∀ V, Below X.heap.size X V → PfV V (.slice xa xn xc) (mrg fa fb)) := fun V hV => ((unhide HPX).below hb1X (Nat.le_refl _)).below hV (Nat.le_refl _)
  have HMG : Hid (∀ (V : World) (u v : Value) (f g : List (List Sp)), Below X.heap.size X V → PfV V u f → PfV V v g → Bd f → Bd g → Calls Tryz.prog 10 #[.agg #[u], .agg #[v]] V fun e V' => ∃ ra rn rc, e = .returned (.agg #[.slice ra rn rc]) ∧ Hid (PfV V' (.slice ra rn rc) (mrg f g)) ∧ Hid (Below X.heap.size X V') ∧ Hid (Below V.heap.size V V')) := fun V u v f g hV h1 h2 k1 k2 => (unhide HMGw V u v f g h1 h2 k1 k2).mono (fun e V' ⟨ra, rn, rc, h1, h2, h3⟩ => ⟨ra, rn, rc, h1, h2, hV.trans (h3.mono hV.size), h3⟩)
  have HSM : Hid (∀ (V : World) (u v : Value) (f g : List (List Sp)), Below X.heap.size X V → PfV V u f → PfV V v g → Calls Tryz.prog 11 #[.agg #[u], .agg #[v]] V fun e V' => e = .returned (.bool (Dc (f = g))) ∧ Hid (Below X.heap.size X V')) := fun V u v f g hV h1 h2 => (sameP_any h1 h2).mono (fun e V' ⟨h1, h3⟩ => ⟨h1, hV.trans (h3.mono hV.size)⟩)
  have HCN : Hid (∀ (V : World) (u : Value) (f : List (List Sp)), Below X.heap.size X V → PfV V u f → Calls Tryz.prog 12 #[.agg #[u]] V fun e V' => e = .returned (.bool (cntB f)) ∧ Hid (Below X.heap.size X V')) := fun V u f hV h1 => (counted_any h1).mono (fun e V' ⟨h1, h3⟩ => ⟨h1, hV.trans (h3.mono hV.size)⟩)
  have HSH : Hid (∀ V, Below X.heap.size X V → Calls Tryz.prog 7 #[] V fun e V' => e = .returned (.bool true) ∧ Hid (Below X.heap.size X V')) := fun V hV => (shown_any V).mono (fun e V' ⟨h1, h3⟩ => ⟨h1, hV.trans (h3.mono hV.size)⟩)
  have HE1 : Hid (mrg fa fb = mrg fb fa) := mrg_comm (unhide HBa).1 (unhide HBb).1
  have HE2 : Hid (mrg fa [] = fa) := mrg_right (unhide HBa).1
  have HE3 : Hid (mrg [] fa = fa) := mrg_left (unhide HBa).1
  have HE4 : Hid (cntB fa = true → cntB fb = true → cntB fc = true → mrg (mrg fa fb) fc = mrg fa (mrg fb fc)) := fun h1 h2 h3 => mrg_assoc (unhide HBa).1 (unhide HBb).1 (unhide HBc).1 h1 h2 h3
  rw [unhide hxb, unhide hX]
  clear hX hxx hb0X hb1X hb1 HPX HK HA HB HC HMGw
  refine wp_region_held_drew (S := (fun V => Below X.heap.size X V)) (by kernel_rfl) (unhide HX0) (fun hHeld => ?_)
  clear hHeld
  refine wpAnyH_take (i := 0) (oi := _) (v := .agg #[.slice xa xn xc]) rfl (by kernel_rfl) (by kernel_rfl) (by kernel_rfl) (fun _ _ _ h => h) (Or.inl ⟨by rfl, (by intro w' hSw; obtain ⟨x0, x1, x2, x3⟩ := unhide HU w' hSw; go_simp)⟩) (unhide HX0) ?_
  go_simp
  refine wpAnyH_take (i := 1) (oi := _) (v := .agg #[.slice ba bn bc]) rfl (by kernel_rfl) (by kernel_rfl) (by kernel_rfl) (fun _ _ _ h => h) (Or.inl ⟨by rfl, (by intro w' hSw; obtain ⟨x0, x1, x2, x3⟩ := unhide HU w' hSw; go_simp)⟩) (unhide HX0) ?_
  go_simp
  refine wpAnyH_take (i := 2) (oi := _) (v := .agg #[.slice aa an ac]) rfl (by kernel_rfl) (by kernel_rfl) (by kernel_rfl) (fun _ _ _ h => h) (Or.inl ⟨by rfl, (by intro w' hSw; obtain ⟨x0, x1, x2, x3⟩ := unhide HU w' hSw; go_simp)⟩) (unhide HX0) ?_
  go_simp
  refine wpAnyH_ready (rs := [3]) (by kernel_rfl) (by simp) ?_
  refine AllReadyH.cons (o := _) rfl (fun K hK => ?_) AllReadyH.nil
  go_simp
  refine (unhide HMG _ _ _ fb fa (unhide HX0) (unhide HPVb _ (unhide HX0)) (unhide HPVa _ (unhide HX0)) ?_ ?_).mono ?_
  · exact unhide HBb
  · exact unhide HBa
  rintro e V1 ⟨ma, mn, mc, rfl, HPm, HBV1, -⟩
  go_simp
  refine hK.out _ _ (unhide HBV1) (fun _ => ?_)
  clear hK K
  go_simp
  refine wpAnyH_ready (rs := [4]) (by kernel_rfl) (by simp) ?_
  refine AllReadyH.cons (o := _) rfl (fun K hK => ?_) AllReadyH.nil
  go_simp
  refine (unhide HSM _ _ _ (mrg fa fb) (mrg fb fa) (unhide HBV1) (unhide HPVx _ (unhide HBV1)) (unhide HPm)).mono ?_
  rintro e V2 ⟨rfl, HBV2⟩
  rw [Dc_true (by exact unhide HE1 : (mrg fa fb) = (mrg fb fa))]
  go_simp
  refine hK.out _ _ (unhide HBV2) (fun _ => ?_)
  clear hK K
  go_simp
  refine wpAnyH_take (i := 5) (oi := _) (v := .bool false) rfl (by kernel_rfl) (by kernel_rfl) (by kernel_rfl) (fun _ _ _ h => h) (Or.inl ⟨by rfl, (by intro w' hSw; obtain ⟨x0, x1, x2, x3⟩ := unhide HU w' hSw; go_simp)⟩) (unhide HBV2) ?_
  go_simp
  refine wpAnyH_take (i := 6) (oi := _) (v := .bool false) rfl (by kernel_rfl) (by kernel_rfl) (by kernel_rfl) (fun _ _ _ h => h) (Or.inl ⟨by rfl, (by intro w' hSw; obtain ⟨x0, x1, x2, x3⟩ := unhide HU w' hSw; go_simp)⟩) (unhide HBV2) ?_
  go_simp
  refine wpAnyH_take (i := 7) (oi := _) (v := .agg #[.slice aa an ac]) rfl (by kernel_rfl) (by kernel_rfl) (by kernel_rfl) (fun _ _ _ h => h) (Or.inl ⟨by rfl, (by intro w' hSw; obtain ⟨x0, x1, x2, x3⟩ := unhide HU w' hSw; go_simp)⟩) (unhide HBV2) ?_
  go_simp
  refine wpAnyH_take (i := 8) (oi := _) (v := .agg #[.slice none 0 0]) rfl (by kernel_rfl) (by kernel_rfl) (by kernel_rfl) (fun _ _ _ h => h) (Or.inl ⟨by rfl, (by intro w' hSw; obtain ⟨x0, x1, x2, x3⟩ := unhide HU w' hSw; go_simp)⟩) (unhide HBV2) ?_
  go_simp
  refine wpAnyH_take (i := 10) (oi := _) (v := .agg #[.slice aa an ac]) rfl (by kernel_rfl) (by kernel_rfl) (by kernel_rfl) (fun _ _ _ h => h) (Or.inl ⟨by rfl, (by intro w' hSw; obtain ⟨x0, x1, x2, x3⟩ := unhide HU w' hSw; go_simp)⟩) (unhide HBV2) ?_
  go_simp
  refine wpAnyH_ready (rs := [9]) (by kernel_rfl) (by simp) ?_
  refine AllReadyH.cons (o := _) rfl (fun K hK => ?_) AllReadyH.nil
  go_simp
  refine (unhide HMG _ _ _ fa [] (unhide HBV2) (unhide HPVa _ (unhide HBV2)) (PfV.nil _) ?_ ?_).mono ?_
  · exact unhide HBa
  · exact unhide HBn
  rintro e V3 ⟨na, nn, nc, rfl, HPn, HBV3, -⟩
  go_simp
  refine hK.out _ _ (unhide HBV3) (fun _ => ?_)
  clear hK K
  go_simp
  refine wpAnyH_ready (rs := [11]) (by kernel_rfl) (by simp) ?_
  refine AllReadyH.cons (o := _) rfl (fun K hK => ?_) AllReadyH.nil
  go_simp
  refine (unhide HSM _ _ _ (mrg fa []) fa (unhide HBV3) (unhide HPn) (unhide HPVa _ (unhide HBV3))).mono ?_
  rintro e V4 ⟨rfl, HBV4⟩
  rw [Dc_true (by exact unhide HE2 : (mrg fa []) = fa)]
  go_simp
  refine hK.out _ _ (unhide HBV4) (fun _ => ?_)
  clear hK K
  go_simp
  refine wpAnyH_take (i := 12) (oi := _) (v := .bool false) rfl (by kernel_rfl) (by kernel_rfl) (by kernel_rfl) (fun _ _ _ h => h) (Or.inl ⟨by rfl, (by intro w' hSw; obtain ⟨x0, x1, x2, x3⟩ := unhide HU w' hSw; go_simp)⟩) (unhide HBV4) ?_
  go_simp
  refine wpAnyH_take (i := 13) (oi := _) (v := .bool false) rfl (by kernel_rfl) (by kernel_rfl) (by kernel_rfl) (fun _ _ _ h => h) (Or.inl ⟨by rfl, (by intro w' hSw; obtain ⟨x0, x1, x2, x3⟩ := unhide HU w' hSw; go_simp)⟩) (unhide HBV4) ?_
  go_simp
  refine wpAnyH_take (i := 14) (oi := _) (v := .bool false) rfl (by kernel_rfl) (by kernel_rfl) (by kernel_rfl) (fun _ _ _ h => h) (Or.inl ⟨by rfl, (by intro w' hSw; obtain ⟨x0, x1, x2, x3⟩ := unhide HU w' hSw; go_simp)⟩) (unhide HBV4) ?_
  go_simp
  refine wpAnyH_take (i := 15) (oi := _) (v := .agg #[.slice none 0 0]) rfl (by kernel_rfl) (by kernel_rfl) (by kernel_rfl) (fun _ _ _ h => h) (Or.inl ⟨by rfl, (by intro w' hSw; obtain ⟨x0, x1, x2, x3⟩ := unhide HU w' hSw; go_simp)⟩) (unhide HBV4) ?_
  go_simp
  refine wpAnyH_take (i := 16) (oi := _) (v := .agg #[.slice aa an ac]) rfl (by kernel_rfl) (by kernel_rfl) (by kernel_rfl) (fun _ _ _ h => h) (Or.inl ⟨by rfl, (by intro w' hSw; obtain ⟨x0, x1, x2, x3⟩ := unhide HU w' hSw; go_simp)⟩) (unhide HBV4) ?_
  go_simp
  refine wpAnyH_take (i := 18) (oi := _) (v := .agg #[.slice aa an ac]) rfl (by kernel_rfl) (by kernel_rfl) (by kernel_rfl) (fun _ _ _ h => h) (Or.inl ⟨by rfl, (by intro w' hSw; obtain ⟨x0, x1, x2, x3⟩ := unhide HU w' hSw; go_simp)⟩) (unhide HBV4) ?_
  go_simp
  refine wpAnyH_ready (rs := [17]) (by kernel_rfl) (by simp) ?_
  refine AllReadyH.cons (o := _) rfl (fun K hK => ?_) AllReadyH.nil
  go_simp
  refine (unhide HMG _ _ _ [] fa (unhide HBV4) (PfV.nil _) (unhide HPVa _ (unhide HBV4)) ?_ ?_).mono ?_
  · exact unhide HBn
  · exact unhide HBa
  rintro e V5 ⟨oa, on, oc, rfl, HPo, HBV5, -⟩
  go_simp
  refine hK.out _ _ (unhide HBV5) (fun _ => ?_)
  clear hK K
  go_simp
  refine wpAnyH_ready (rs := [19]) (by kernel_rfl) (by simp) ?_
  refine AllReadyH.cons (o := _) rfl (fun K hK => ?_) AllReadyH.nil
  go_simp
  refine (unhide HSM _ _ _ (mrg [] fa) fa (unhide HBV5) (unhide HPo) (unhide HPVa _ (unhide HBV5))).mono ?_
  rintro e V6 ⟨rfl, HBV6⟩
  rw [Dc_true (by exact unhide HE3 : (mrg [] fa) = fa)]
  go_simp
  refine hK.out _ _ (unhide HBV6) (fun _ => ?_)
  clear hK K
  go_simp
  refine wpAnyH_take (i := 20) (oi := _) (v := .bool false) rfl (by kernel_rfl) (by kernel_rfl) (by kernel_rfl) (fun _ _ _ h => h) (Or.inl ⟨by rfl, (by intro w' hSw; obtain ⟨x0, x1, x2, x3⟩ := unhide HU w' hSw; go_simp)⟩) (unhide HBV6) ?_
  go_simp
  refine wpAnyH_take (i := 21) (oi := _) (v := .bool false) rfl (by kernel_rfl) (by kernel_rfl) (by kernel_rfl) (fun _ _ _ h => h) (Or.inl ⟨by rfl, (by intro w' hSw; obtain ⟨x0, x1, x2, x3⟩ := unhide HU w' hSw; go_simp)⟩) (unhide HBV6) ?_
  go_simp
  refine wpAnyH_done (by kernel_rfl) ?_ _

  go_simp
  clear HE1 HE2 HE3
  obtain ⟨x0, x1, x2, x3⟩ := unhide HU _ (unhide HBV6)
  go_wp2_with fail
  refine (unhide HCN _ _ fa (unhide HBV6) (unhide HPVa _ (unhide HBV6))).mono ?_
  rintro e C1 ⟨rfl, HBC1⟩
  clear x0 x1 x2 x3
  cases hca : cntB fa with
  | false =>
    go_wp2_with fail
    refine (unhide HSH _ (unhide HBC1)).mono ?_
    rintro e VZ ⟨rfl, HBVZ⟩
    go_wp2_with fail
    go_ret
    exact ⟨rfl, unhide HWV _ (unhide HBVZ)⟩
  | true =>
    have HCA := hide hca
    clear hca
    obtain ⟨x0, x1, x2, x3⟩ := unhide HU _ (unhide HBC1)
    go_wp2_with fail
    refine (unhide HCN _ _ fb (unhide HBC1) (unhide HPVb _ (unhide HBC1))).mono ?_
    rintro e C2 ⟨rfl, HBC2⟩
    clear x0 x1 x2 x3
    cases hcb : cntB fb with
    | false =>
      go_wp2_with fail
      refine (unhide HSH _ (unhide HBC2)).mono ?_
      rintro e VZ ⟨rfl, HBVZ⟩
      go_wp2_with fail
      go_ret
      exact ⟨rfl, unhide HWV _ (unhide HBVZ)⟩
    | true =>
      have HCB := hide hcb
      clear hcb
      obtain ⟨x0, x1, x2, x3⟩ := unhide HU _ (unhide HBC2)
      go_wp2_with fail
      refine (unhide HCN _ _ fc (unhide HBC2) (unhide HPVc _ (unhide HBC2))).mono ?_
      rintro e C3 ⟨rfl, HBC3⟩
      clear x0 x1 x2 x3
      cases hcc : cntB fc with
      | false =>
        go_wp2_with fail
        refine (unhide HSH _ (unhide HBC3)).mono ?_
        rintro e VZ ⟨rfl, HBVZ⟩
        go_wp2_with fail
        go_ret
        exact ⟨rfl, unhide HWV _ (unhide HBVZ)⟩
      | true =>
        replace HE4 := hide (unhide HE4 (unhide HCA) (unhide HCB) hcc)
        clear hcc
        go_wp2_with fail
        have HXL : Hid (Below X.heap.size X C3.drew) := by have h := unhide HBC3; exact ⟨h.1, h.2, h.3, h.4, h.5⟩
        refine wp_region_held_drew (S := (fun V => Below X.heap.size X V)) (by kernel_rfl) (unhide HXL) (fun hHeld => ?_)
        clear hHeld
        refine wpAnyH_take (i := 0) (oi := _) (v := .agg #[.slice xa xn xc]) rfl (by kernel_rfl) (by kernel_rfl) (by kernel_rfl) (fun _ _ _ h => h) (Or.inl ⟨by rfl, (by intro w' hSw; obtain ⟨x0, x1, x2, x3⟩ := unhide HU w' hSw; go_simp)⟩) (unhide HXL) ?_
        go_simp
        refine wpAnyH_take (i := 1) (oi := _) (v := .agg #[.slice ca cn cc]) rfl (by kernel_rfl) (by kernel_rfl) (by kernel_rfl) (fun _ _ _ h => h) (Or.inl ⟨by rfl, (by intro w' hSw; obtain ⟨x0, x1, x2, x3⟩ := unhide HU w' hSw; go_simp)⟩) (unhide HXL) ?_
        go_simp
        refine wpAnyH_take (i := 3) (oi := _) (v := .agg #[.slice aa an ac]) rfl (by kernel_rfl) (by kernel_rfl) (by kernel_rfl) (fun _ _ _ h => h) (Or.inl ⟨by rfl, (by intro w' hSw; obtain ⟨x0, x1, x2, x3⟩ := unhide HU w' hSw; go_simp)⟩) (unhide HXL) ?_
        go_simp
        refine wpAnyH_take (i := 4) (oi := _) (v := .agg #[.slice ba bn bc]) rfl (by kernel_rfl) (by kernel_rfl) (by kernel_rfl) (fun _ _ _ h => h) (Or.inl ⟨by rfl, (by intro w' hSw; obtain ⟨x0, x1, x2, x3⟩ := unhide HU w' hSw; go_simp)⟩) (unhide HXL) ?_
        go_simp
        refine wpAnyH_take (i := 5) (oi := _) (v := .agg #[.slice ca cn cc]) rfl (by kernel_rfl) (by kernel_rfl) (by kernel_rfl) (fun _ _ _ h => h) (Or.inl ⟨by rfl, (by intro w' hSw; obtain ⟨x0, x1, x2, x3⟩ := unhide HU w' hSw; go_simp)⟩) (unhide HXL) ?_
        go_simp
        refine wpAnyH_ready (rs := [2]) (by kernel_rfl) (by simp) ?_
        refine AllReadyH.cons (o := _) rfl (fun K hK => ?_) AllReadyH.nil
        go_simp
        refine (unhide HMG _ _ _ (mrg fa fb) fc (unhide HXL) (unhide HPVx _ (unhide HXL)) (unhide HPVc _ (unhide HXL)) ?_ ?_).mono ?_
        · exact unhide HBx
        · exact unhide HBc
        rintro e V7 ⟨pa, pn, pc, rfl, HPp, HBV7, HNV7⟩
        go_simp
        refine hK.out _ _ (unhide HBV7) (fun _ => ?_)
        clear hK K
        go_simp
        refine wpAnyH_ready (rs := [6]) (by kernel_rfl) (by simp) ?_
        refine AllReadyH.cons (o := _) rfl (fun K hK => ?_) AllReadyH.nil
        go_simp
        refine (unhide HMG _ _ _ fb fc (unhide HBV7) (unhide HPVb _ (unhide HBV7)) (unhide HPVc _ (unhide HBV7)) ?_ ?_).mono ?_
        · exact unhide HBb
        · exact unhide HBc
        rintro e V8 ⟨qa, qn, qc, rfl, HPq, HBV8, HNV8⟩
        go_simp
        refine hK.out _ _ (unhide HBV8) (fun _ => ?_)
        clear hK K
        go_simp
        refine wpAnyH_ready (rs := [7]) (by kernel_rfl) (by simp) ?_
        refine AllReadyH.cons (o := _) rfl (fun K hK => ?_) AllReadyH.nil
        go_simp
        refine (unhide HMG _ _ _ fa (mrg fb fc) (unhide HBV8) (unhide HPVa _ (unhide HBV8)) (unhide HPq) ?_ ?_).mono ?_
        · exact unhide HBa
        · exact unhide HBy
        rintro e V9 ⟨ra, rn, rc, rfl, HPr, HBV9, HNV9⟩
        go_simp
        refine hK.out _ _ (unhide HBV9) (fun _ => ?_)
        clear hK K
        go_simp
        have HPp2 : Hid (PfV V9 (.slice pa pn pc) (mrg (mrg fa fb) fc)) := ((unhide HPp).below (unhide HNV8) (Nat.le_refl _)).below (unhide HNV9) (Nat.le_refl _)
        refine wpAnyH_ready (rs := [8]) (by kernel_rfl) (by simp) ?_
        refine AllReadyH.cons (o := _) rfl (fun K hK => ?_) AllReadyH.nil
        go_simp
        refine (unhide HSM _ _ _ (mrg (mrg fa fb) fc) (mrg fa (mrg fb fc)) (unhide HBV9) (unhide HPp2) (unhide HPr)).mono ?_
        rintro e V10 ⟨rfl, HBV10⟩
        rw [Dc_true (by exact unhide HE4 : (mrg (mrg fa fb) fc) = (mrg fa (mrg fb fc)))]
        go_simp
        refine hK.out _ _ (unhide HBV10) (fun _ => ?_)
        clear hK K
        go_simp
        refine wpAnyH_take (i := 9) (oi := _) (v := .bool true) rfl (by kernel_rfl) (by kernel_rfl) (by kernel_rfl) (fun _ _ _ h => h) (Or.inl ⟨by rfl, (by intro w' hSw; obtain ⟨x0, x1, x2, x3⟩ := unhide HU w' hSw; go_simp)⟩) (unhide HBV10) ?_
        go_simp
        refine wpAnyH_ready (rs := [10]) (by kernel_rfl) (by simp) ?_
        refine AllReadyH.cons (o := _) rfl (fun K hK => ?_) AllReadyH.nil
        go_simp
        refine (unhide HSH _ (unhide HBV10)).mono ?_
        rintro e VZ ⟨rfl, HBVZ⟩
        go_simp
        refine hK.out _ _ (unhide HBVZ) (fun _ => ?_)
        clear hK K
        go_simp
        refine wpAnyH_take (i := 11) (oi := _) (v := .bool true) rfl (by kernel_rfl) (by kernel_rfl) (by kernel_rfl) (fun _ _ _ h => h) (Or.inl ⟨by rfl, (by intro w' hSw; obtain ⟨x0, x1, x2, x3⟩ := unhide HU w' hSw; go_simp)⟩) (unhide HBVZ) ?_
        go_simp
        refine wpAnyH_take (i := 12) (oi := _) (v := .bool true) rfl (by kernel_rfl) (by kernel_rfl) (by kernel_rfl) (fun _ _ _ h => h) (Or.inl ⟨by rfl, (by intro w' hSw; obtain ⟨x0, x1, x2, x3⟩ := unhide HU w' hSw; go_simp)⟩) (unhide HBVZ) ?_
        go_simp
        refine wpAnyH_done (by kernel_rfl) ?_ _

        go_simp
        go_wp2_with fail
        go_ret
        exact ⟨rfl, unhide HWV _ (unhide HBVZ)⟩
end Go.Proofs.YtclcebdcdbcpjaaGreat
namespace Go.Proofs.YtclcebdcdbcpjaaGreat
open Go.RowKit
set_option linter.unusedVariables false
set_option linter.unusedSimpArgs false
theorem Tryz.info59 : (Tryz.prog.info? 59).map (fun i => (i.zero, i.size, i.bytes)) = some (some (.agg #[.int .i64 0, .int .i64 0]), 2, 16) := by kernel_rfl
theorem appV {w : World} {ops : Array Oper} {rest : List Oper} {o : Oper} {a : Act} {Q : Exit → Act → World → Prop}
    (hg : o.guard = none) (s x : Operand) (hop : o.op = Op.call { callee := Callee.builtin Builtin.append, args := #[s, x], argTypes := #[47, 47] })
    (v : Value) (l : List (Int × Int)) (hs : a.eval s = v) (hr : Ro w 2 v l.length (flt enI l)) (ad : Addr) (c : Nat) (p : Int × Int) (hx : a.eval x = .slice (some ad) 1 c) (hc : ∀ j u, (enI p)[j]? = some u → w.cell? (ad.add j) = some u)
    (hN : l.length ≤ 8796093022079)
    (hK : ∀ v' w', Ro w' 2 v' (l.length + 1) (flt enI l ++ enI p) → w.grownBy w' v.ownBlock → (v'.ownBlock = v.ownBlock ∨ v'.ownBlock = some w.heap.size) → wpList Tryz.prog ops Q rest (a.put o.dst v') w') :
    wpList Tryz.prog ops Q (o :: rest) a w := by
  obtain ⟨i0, hi0, hz0, hz1, hz2⟩ := info_parts Tryz.info59
  exact wpList_app hg s x 47 hop 59 i0 _ 2 16 Tryz.underlying47 hi0 hz0 hz1 hz2 rfl (by decide) v l.length (flt enI l) hs hr ad 1 c (enI p) hx rfl hc (by simp [enI, Value.oneCell']) (by omega) (by unfold maxLen; omega) (by omega) hK
def mkV (n : Nat) : List (Int × Int) := (List.range n).map (fun (i : Nat) => ((-9 : Int), (i : Int)))
theorem mkV_succ (n : Nat) : mkV (n + 1) = mkV n ++ [(fun (i : Nat) => ((-9 : Int), (i : Int))) n] := by simp [mkV, List.range_succ]
theorem mkV_length (n : Nat) : (mkV n).length = n := by simp [mkV]
theorem lmV_left (l : List (Int × Int)) (i : Nat) (p : Int × Int) (h : l[i]? = some p) : (l ++ mkV 64)[i]? = some p := by
  rw [List.getElem?_append_left (List.getElem?_eq_some_iff.1 h).1]; exact h
theorem lmV_right (l : List (Int × Int)) (i : Nat) (h1 : l.length ≤ i) (h2 : i < l.length + 64) : (l ++ mkV 64)[i]? = some (-9, (i : Int) - (l.length : Int)) := by
  rw [List.getElem?_append_right h1]
  simp [mkV, List.getElem?_range (show i - l.length < 64 by omega)]
  omega
theorem lmV_length (l : List (Int × Int)) : (l ++ mkV 64).length = l.length + 64 := by rw [List.length_append, mkV_length]
set_option maxRecDepth 100000 in
set_option maxHeartbeats 1600000 in
theorem lentV_any {w : World} {lv : Value} {l : List (Int × Int)} (h : Rx w 2 lv l.length (flt enI l)) (hN : l.length ≤ 8796093021952) :
    Calls Tryz.prog 34 #[lv] w fun e w' => ∃ v', e = .returned v' ∧ Gx w 2 enI (l ++ mkV 64) v' w' := by
  have HC := hide (fun i p (hp : l[i]? = some p) => h.elem zI hp)
  obtain ⟨_, a, cap, rfl, hlc, hcm, _⟩ := h
  obtain ⟨L, hL⟩ : ∃ L, Hid (l.length = L) := ⟨_, rfl⟩
  rw [unhide hL] at hN hlc HC ⊢
  go_enter Tryz.func34, Tryz.ntmps34
  go_wp2_with fail
  go_loopg [3, 4] L (fun g t3 t4 wr => ∃ (i : Nat) (v : Value), Hid (i + g = L) ∧ t3 = v ∧ t4 = .int .i64 (i : Int) ∧ Hid (Gx w 2 enI (l.take i) v wr))
  case atStart => exact ⟨0, _, by unfold Hid; omega, rfl, rfl, ⟨by simpa [flt] using Ro.nil _ _, Below.refl _ _, by simp [Value.ownBlock]⟩⟩
  case round =>
    obtain ⟨i, v, hi, rfl, rfl, hG⟩ := hrel
    by_cases hlt : i < L
    · have hil : i < l.length := by rw [unhide hL]; exact hlt
      obtain ⟨p, hp⟩ : ∃ p, l[i]? = some p := ⟨_, List.getElem?_eq_getElem hil⟩
      obtain ⟨b, off, cap', e, _, _, hb, hcs⟩ := unhide HC i p hp
      cases e
      have hs := (unhide hG).2.1
      have k0 : wr.cell? ⟨b, off + i * 2, none⟩ = some (.int .i64 p.1) := (hs.cell (p := ⟨b, off + i * 2, none⟩) hb).trans (hcs 0 _ rfl)
      have k1 : wr.cell? ⟨b, off + i * 2 + 1, none⟩ = some (.int .i64 p.2) := (hs.cell (p := ⟨b, off + i * 2 + 1, none⟩) hb).trans (hcs 1 _ rfl)
      have hbr := Nat.lt_of_lt_of_le hb hs.size
      have i0 : (0 : Int) ≤ (i : Int) := by omega
      have i1 : (i : Int) < (L : Int) := by omega
      have htl : (l.take i).length = i := by simp; omega
      have HRo := hide (unhide hG).1
      have HP := hide hp
      clear hs hcs hp
      go_wp2_with (first | (at_builtin; refine appV rfl _ _ rfl _ (l.take i) rfl ((unhide HRo).keep (fun g hg => Below.heap_alloc _ _ _ ((unhide HRo).lt g hg))) ⟨wr.heap.size, 0, none⟩ 1 p rfl (new_cells _ _ _) (by rw [htl]; omega) ?_))
      intro v' w' hr hg hat
      have hG2 := (unhide hG).push hr (by rw [htl]) hg (by simpa using hat)
      rw [← take_push (unhide HP)] at hG2
      have HG2 := hide hG2
      clear hr hg hat hG2
      go_wp2_with fail
      go_roundg (gk - 1)
      case measure => have := unhide hi; omega
      case rel => exact ⟨i + 1, v', by have := unhide hi; unfold Hid; omega, rfl, by go_num, HG2⟩
    · have hiL : i = L := by have := unhide hi; omega
      subst hiL
      have hG0 := unhide hG
      rw [List.take_of_length_le (by rw [unhide hL]; exact Nat.le_refl _)] at hG0
      have HG0 := hide (show Gx w 2 enI (l ++ mkV 0) _ wr by simpa [mkV] using hG0)
      clear hG hG0
      go_wp2_with fail
      go_loopg [3, 5] 64 (fun g t3 t5 wr => ∃ (j : Nat) (v : Value), Hid (j + g = 64) ∧ t3 = v ∧ t5 = .int .i64 (j : Int) ∧ Hid (Gx w 2 enI (l ++ mkV j) v wr))
      case atStart => exact ⟨0, _, by unfold Hid; omega, rfl, rfl, HG0⟩
      case round =>
        obtain ⟨j, v2, hj, rfl, rfl, hG⟩ := hrel
        by_cases hlt2 : j < 64
        · have HLEN : Hid ((l ++ mkV j).length ≤ 8796093022079) := by rw [List.length_append, mkV_length, unhide hL]; unfold Hid; omega
          have HRo := hide (unhide hG).1
          have d1 : (j : Int) < 64 := by omega
          go_wp2_with (first | (at_builtin; refine appV rfl _ _ rfl _ (l ++ mkV j) rfl ((unhide HRo).keep (fun g hg => Below.heap_alloc _ _ _ ((unhide HRo).lt g hg))) ⟨(World.heap _).size, 0, none⟩ 1 ((fun (i : Nat) => ((-9 : Int), (i : Int))) j) rfl (new_cells _ _ _) (unhide HLEN) ?_))
          intro v' w' hr hg hat
          have hG2 := (unhide hG).push hr (by simp) hg (by simpa using hat)
          rw [List.append_assoc, ← mkV_succ] at hG2
          have HG2 := hide hG2
          clear hr hg hat hG2
          go_wp2_with fail
          go_roundg (gk - 1)
          case measure => have := unhide hj; omega
          case rel => exact ⟨j + 1, v', by have := unhide hj; unfold Hid; omega, rfl, by go_num, HG2⟩
        · have hj6 : j = 64 := by have := unhide hj; omega
          subst hj6
          go_wp2_with fail
          go_ret
          exact ⟨_, rfl, unhide hG⟩
set_option maxRecDepth 100000 in
set_option maxHeartbeats 3200000 in
theorem keptV_any {w : World} {lv v : Value} {l : List (Int × Int)} (hv : Rx w 2 v (l ++ mkV 64).length (flt enI (l ++ mkV 64))) (h : Rx w 2 lv l.length (flt enI l)) (hN : l.length ≤ 8796093021952) :
    Calls Tryz.prog 35 #[v, lv] w fun e w' => e = .returned (.bool true) ∧ Below w.heap.size w w' := by
  have HC := hide (fun i p (hp : l[i]? = some p) => h.elem zI hp)
  have HV := hide (fun i p (hp : (l ++ mkV 64)[i]? = some p) => hv.elem zI hp)
  obtain ⟨_, a, cap, rfl, _, _, _⟩ := h
  obtain ⟨_, va, vcap, rfl, _, _, _⟩ := hv
  rw [lmV_length]
  rw [lmV_length] at HV
  obtain ⟨L, hL⟩ : ∃ L, Hid (l.length = L) := ⟨_, rfl⟩
  rw [unhide hL] at hN HC HV ⊢
  have d0 : (((L : Nat) : Int) + 64 != (L : Int) + 64) = false := by simp
  go_enter Tryz.func35, Tryz.ntmps35
  go_wp2_with fail
  go_loopg [5] (L + 64) (fun gg t5 wr => ∃ (i : Nat), Hid (i + gg = L + 64) ∧ t5 = .int .i64 (i : Int) ∧ Hid (Below w.heap.size w wr))
  case atStart => exact ⟨0, by unfold Hid; omega, rfl, Below.refl _ _⟩
  case round =>
    obtain ⟨i, hi, rfl, hB⟩ := hrel
    by_cases hlt : i < L + 64
    · by_cases hl2 : i < L
      · have hil : i < l.length := by rw [unhide hL]; exact hl2
        obtain ⟨p, hp⟩ : ∃ p, l[i]? = some p := ⟨_, List.getElem?_eq_getElem hil⟩
        obtain ⟨b, so, _, e1, _, _, hb, c⟩ := unhide HC i p hp
        obtain ⟨g, off, _, e2, _, _, hg, q⟩ := unhide HV i p (lmV_left l i p hp)
        cases e1
        cases e2
        have k0 : wr.cell? ⟨b, so + i * 2, none⟩ = some (.int .i64 p.1) := ((unhide hB).cell (p := ⟨b, so + i * 2, none⟩) hb).trans (c 0 _ rfl)
        have r0 : wr.cell? ⟨g, off + i * 2, none⟩ = some (.int .i64 p.1) := ((unhide hB).cell (p := ⟨g, off + i * 2, none⟩) hg).trans (q 0 _ rfl)
        have k1 : wr.cell? ⟨b, so + i * 2 + 1, none⟩ = some (.int .i64 p.2) := ((unhide hB).cell (p := ⟨b, so + i * 2 + 1, none⟩) hb).trans (c 1 _ rfl)
        have r1 : wr.cell? ⟨g, off + i * 2 + 1, none⟩ = some (.int .i64 p.2) := ((unhide hB).cell (p := ⟨g, off + i * 2 + 1, none⟩) hg).trans (q 1 _ rfl)
        have hbr := Nat.lt_of_lt_of_le hb (unhide hB).size
        have hgr := Nat.lt_of_lt_of_le hg (unhide hB).size
        have i0 : (0 : Int) ≤ (i : Int) := by omega
        have i1 : (i : Int) < (L : Int) := by omega
        have i2 : (i : Int) < (L : Int) + 64 := by omega
        clear c q hp
        have hB2 := hide ((unhide hB).trans (((Below.refl _ wr).alloc (Nat.le_refl _) (.cells #[.int .i64 p.1, .int .i64 p.2] 59)).mono (unhide hB).size))
        go_wp2_with fail
        go_quiet (fail)
        have hB3 := hide ((unhide hB2).trans ((Fr.drewN (S := fun _ => False) nq).below (unhide hB2).size (fun _ _ e => e)))
        go_wp2_with fail
        go_roundg (gk - 1)
        case measure => have := unhide hi; omega
        case rel => exact ⟨i + 1, by have := unhide hi; unfold Hid; omega, by go_num, hB3⟩
      · obtain ⟨g, off, _, e2, _, _, hg, q⟩ := unhide HV i _ (lmV_right l i (by rw [unhide hL]; omega) (by rw [unhide hL]; omega))
        cases e2
        rw [unhide hL] at q
        have r0 : wr.cell? ⟨g, off + i * 2, none⟩ = some (.int .i64 (-9)) := ((unhide hB).cell (p := ⟨g, off + i * 2, none⟩) hg).trans (q 0 _ rfl)
        have r1 : wr.cell? ⟨g, off + i * 2 + 1, none⟩ = some (.int .i64 ((i : Int) - (L : Int))) := ((unhide hB).cell (p := ⟨g, off + i * 2 + 1, none⟩) hg).trans (q 1 _ rfl)
        have hgr := Nat.lt_of_lt_of_le hg (unhide hB).size
        have i0 : (0 : Int) ≤ (i : Int) := by omega
        have i1 : decide ((i : Int) < (L : Int)) = false := decide_eq_false (by omega)
        have i2 : (i : Int) < (L : Int) + 64 := by omega
        clear q
        have hB2 := hide ((unhide hB).trans (((Below.refl _ wr).alloc (Nat.le_refl _) (.cells #[.int .i64 (-9), .int .i64 ((i : Int) - (L : Int))] 59)).mono (unhide hB).size))
        go_wp2_with fail
        go_quiet (fail)
        have hB3 := hide ((unhide hB2).trans ((Fr.drewN (S := fun _ => False) nq).below (unhide hB2).size (fun _ _ e => e)))
        go_wp2_with fail
        go_roundg (gk - 1)
        case measure => have := unhide hi; omega
        case rel => exact ⟨i + 1, by have := unhide hi; unfold Hid; omega, by go_num, hB3⟩
    · have hiL : i = L + 64 := by have := unhide hi; omega
      subst hiL
      go_wp2_with fail
      go_ret
      exact ⟨rfl, unhide hB⟩
theorem oneI (l : List (Int × Int)) : ∀ u ∈ flt enI l, u.oneCell' = true := fun u hu => by
  obtain ⟨x, _, h2⟩ := List.mem_flatMap.1 hu
  simp only [enI, List.mem_cons, List.not_mem_nil, or_false] at h2
  rcases h2 with rfl | rfl <;> rfl
end Go.Proofs.YtclcebdcdbcpjaaGreat
namespace Go.Proofs.YtclcebdcdbcpjaaGreat
open Go.RowKit
set_option linter.unusedVariables false
set_option linter.unusedSimpArgs false
theorem take_flt2 (l m : List (Int × Int)) : (flt enI (l ++ m)).take (l.length * 2) = flt enI l := by
  have : (flt enI l).length = l.length * 2 := flt_length zI l
  unfold flt at *
  rw [List.flatMap_append, ← this, List.take_left']
  rfl
set_option maxRecDepth 100000 in
set_option maxHeartbeats 6400000 in
theorem tellN_any {Z : Nat → Prop} {w : World} {p : Nat} {f : List (List Sp)} (h : BkM Z w p f) (hO : OkF f) (on f1 f2 : Int) (hs : OkV (f1, f2)) {lv : Value} {l : List (Int × Int)} (hl : Rx w 2 lv l.length (flt enI l)) (hll : l.length ≤ 5864062014634) (k : Int) (hk : I64 k) (ak : Bool) (hz : 0 < l.length → ∀ b, lv.ownBlock = some b → ¬ Z b) :
    Calls Tryz.prog 15 #[.pointer (some ⟨p, 0, none⟩), .agg #[.int .i64 on, .int .i64 f1, .int .i64 f2, lv, .int .i64 k, .bool ak]] w fun e w' => e = .returned (.bool true) ∧ BkM Z w' p (noteP f (f1, f2) l k) ∧ Fr Z w w' := by
  obtain ⟨q, hq⟩ : ∃ q, Hid (w.heap.size = q) := ⟨_, hide rfl⟩
  obtain ⟨la, lc, rfl, hl1, hl2⟩ := hl.shape
  obtain ⟨L, hL⟩ : ∃ L, Hid (l.length = L) := ⟨_, hide rfl⟩
  obtain ⟨Z1, hZ1⟩ : ∃ Z1 : Nat → Prop, Hid ((fun b => Z b ∧ b < w.heap.size) = Z1) := ⟨_, hide rfl⟩
  have HZ1 : Hid (∀ b, Z1 b → Z b ∧ b < w.heap.size) := fun b hb => by rw [← unhide hZ1] at hb; exact hb
  have HB : Hid (BkM Z1 w p f) := by unfold Hid; rw [← unhide hZ1]; exact h.mono (fun b hb hz => ⟨hz, hb⟩)
  have HBO := hide (fun (W : World) (F : List (List Sp)) (hF : BkM Z1 W p F) => hF.mono (Z' := Z) (fun b _ hb => (unhide HZ1 b hb).1))
  have HL : Hid (∀ W (S : Nat → Prop), Fr S w W → (∀ b, S b → Z b ∨ w.heap.size ≤ b) → Rx W 2 (.slice la L lc) l.length (flt enI l)) := fun W S hW hS => by
    rw [← unhide hL]
    by_cases h0 : 0 < l.length
    · refine hl.fr hW (fun b hb e => ?_)
      rcases hS b e with e | e
      · exact hz h0 b hb e
      · obtain ⟨_, a, c, e1, _, _, e2⟩ := hl
        cases e1
        obtain ⟨b', o', e3, hlt, _⟩ := e2 h0
        subst e3
        have hbb : b' = b := Option.some.inj hb
        omega
    · obtain ⟨e0, a, c, e1, e2, e3, e4⟩ := hl
      exact ⟨e0, a, c, e1, e2, e3, fun h => absurd h h0⟩
  have HN : Hid (l.length ≤ 8796093021952) := by unfold Hid; omega
  have HLL := hide hll
  clear hz h hll
  rw [unhide hL] at hl1 ⊢
  clear hl
  unfold maxLen at hl2
  obtain ⟨W0, hW0⟩ : ∃ W, Hid (w.alloc (.cells #[.int .i64 on, .int .i64 f1, .int .i64 f2, .slice la L lc, .int .i64 k, .bool ak] 49) = W) := ⟨_, hide rfl⟩
  have HB0 : Hid (Below w.heap.size w W0) := by unfold Hid; rw [← unhide hW0]; exact (Below.refl _ w).alloc (Nat.le_refl _) _
  have k0 : W0.heap[q]? = some (.cells #[.int .i64 on, .int .i64 f1, .int .i64 f2, .slice la L lc, .int .i64 k, .bool ak] 49) := by rw [← unhide hW0, ← unhide hq]; exact heap_alloc_new w _
  have HK0 := hide k0
  have c3 := (blk_cells k0).1 3
  have l0 := (blk_cells k0).2.2
  clear k0
  go_enter Tryz.func15, Tryz.ntmps15
  go_wp2_with fail
  rw [unhide hq, unhide hW0]
  clear hW0
  go_wp2_with fail
  refine (lentV_any (unhide HL W0 (fun _ => False) (Fr.of_below (unhide HB0)) (fun _ e => e.elim)) (unhide HN)).mono ?_
  rintro e w1 ⟨v1, rfl, hG⟩
  obtain ⟨g, off, cap, ev, g1, g2, g3, -⟩ := hG.1.full (by rw [lmV_length]; omega)
  obtain ⟨M, hM⟩ : ∃ M, Hid ((l ++ mkV 64).length = M) := ⟨_, hide rfl⟩
  have HML : Hid (M = L + 64) := by unfold Hid; rw [← unhide hM, lmV_length, unhide hL]
  have hR1 := hG.1
  have hgq := hG.2.2 g (by rw [ev]; rfl)
  have hb01 := hG.2.1
  clear hG
  subst ev
  rw [unhide hM] at hR1 g1 ⊢
  unfold maxLen at g2
  have HR1 := hide hR1
  have HGQ : Hid (q < g ∧ w.heap.size < g) := by
    have e := unhide hq
    unfold Hid
    omega
  have HF01 : Hid (Fr Z1 w w1) := (Fr.of_below (unhide HB0)).trans (Fr.of_below hb01 |>.mono (fun _ _ e => e))
  have HBW : Hid (Below w.heap.size w w1.drew) := by
    have h := (unhide HB0).trans (hb01.mono (unhide HB0).size)
    exact ⟨h.1, h.2, h.3, h.4, h.5⟩
  have HS0 : Hid (Fr Z1 w1 w1.drew) := (Fr.refl _ _).drew
  have HU : Hid (∀ V, Fr Z1 w1 V → V.cell? ⟨q, 1, none⟩ = some (.int .i64 f1) ∧ V.cell? ⟨q, 2, none⟩ = some (.int .i64 f2) ∧ V.cell? ⟨q, 3, none⟩ = some (.slice la L lc) ∧ V.cell? ⟨q, 4, none⟩ = some (.int .i64 k)) := fun V hV => by
    have e := unhide hq
    have hz := hb01.size
    have kb : V.heap[q]? = some (.cells #[.int .i64 on, .int .i64 f1, .int .i64 f2, .slice la L lc, .int .i64 k, .bool ak] 49) := by
      rw [hV.block q (by omega) (fun hb => by have := (unhide HZ1 q hb).2; omega), hb01.block q l0]
      exact unhide HK0
    exact ⟨(blk_cells kb).1 1, (blk_cells kb).1 2, (blk_cells kb).1 3, (blk_cells kb).1 4⟩
  have HNT : Hid (Calls Tryz.prog 21 #[.pointer (some ⟨p, 0, none⟩), .int .i64 f1, .int .i64 f2, .slice (some ⟨g, off, none⟩) L cap, .int .i64 k] w1.drew fun e w' => e = .returned (.tuple #[]) ∧ Hid (BkM Z1 w' p (noteP f (f1, f2) l k)) ∧ Hid (Fr Z1 w1 w')) := by
    have hbk : BkM Z1 w1.drew p f := (unhide HB).fr (Fr.of_below (S := fun _ => False) (unhide HBW)) (fun _ _ _ e => e)
    have hrx : Rx w1.drew 2 (.slice (some ⟨g, off, none⟩) L cap) l.length (flt enI l) := by
      have h1 := (unhide HR1).upto rfl (k := L) (by have := unhide HML; omega)
      rw [← unhide hL, take_flt2] at h1
      rw [← unhide hL]
      exact (Rx.of_ro h1).fr (unhide HS0) (fun b hb e => by have hbb : g = b := Option.some.inj hb; have := (unhide HZ1 _ e).2; have := (unhide HGQ).2; omega)
    exact (note_any hbk hO (f1, f2) hs hrx (unhide HLL) k hk).mono (fun e w' ⟨h1, h2, h3⟩ => ⟨h1, h2, (unhide HS0).trans h3⟩)
  have m1 : (L : Int) ≤ (cap : Int) := by have := unhide HML; omega
  clear c3 hR1 hb01 hs
  go_wp2_with fail
  refine wp_region_held_drew (S := (fun V => Fr Z1 w1 V)) (by kernel_rfl) (unhide HS0) (fun hHeld => ?_)
  clear hHeld
  refine wpAnyH_take (i := 0) (oi := _) (v := .pointer (some ⟨p, 0, none⟩)) rfl (by kernel_rfl) (by kernel_rfl) (by kernel_rfl) (fun _ _ _ h => h) (Or.inl ⟨by rfl, (by intro w' hSw; obtain ⟨x1, x2, x3, x4⟩ := unhide HU w' hSw; go_simp)⟩) (unhide HS0) ?_
  go_simp
  refine wpAnyH_take (i := 1) (oi := _) (v := .pointer (some ⟨q, 1, none⟩)) rfl (by kernel_rfl) (by kernel_rfl) (by kernel_rfl) (fun _ _ _ h => h) (Or.inl ⟨by rfl, (by intro w' hSw; obtain ⟨x1, x2, x3, x4⟩ := unhide HU w' hSw; go_simp)⟩) (unhide HS0) ?_
  go_simp
  refine wpAnyH_take (i := 2) (oi := _) (v := .int .i64 f1) rfl (by kernel_rfl) (by kernel_rfl) (by kernel_rfl) (fun _ _ _ h => h) (Or.inl ⟨by rfl, (by intro w' hSw; obtain ⟨x1, x2, x3, x4⟩ := unhide HU w' hSw; go_simp)⟩) (unhide HS0) ?_
  go_simp
  refine wpAnyH_take (i := 3) (oi := _) (v := .pointer (some ⟨q, 2, none⟩)) rfl (by kernel_rfl) (by kernel_rfl) (by kernel_rfl) (fun _ _ _ h => h) (Or.inl ⟨by rfl, (by intro w' hSw; obtain ⟨x1, x2, x3, x4⟩ := unhide HU w' hSw; go_simp)⟩) (unhide HS0) ?_
  go_simp
  refine wpAnyH_take (i := 4) (oi := _) (v := .int .i64 f2) rfl (by kernel_rfl) (by kernel_rfl) (by kernel_rfl) (fun _ _ _ h => h) (Or.inl ⟨by rfl, (by intro w' hSw; obtain ⟨x1, x2, x3, x4⟩ := unhide HU w' hSw; go_simp)⟩) (unhide HS0) ?_
  go_simp
  refine wpAnyH_take (i := 5) (oi := _) (v := .slice (some ⟨g, off, none⟩) M cap) rfl (by kernel_rfl) (by kernel_rfl) (by kernel_rfl) (fun _ _ _ h => h) (Or.inl ⟨by rfl, (by intro w' hSw; obtain ⟨x1, x2, x3, x4⟩ := unhide HU w' hSw; go_simp)⟩) (unhide HS0) ?_
  go_simp
  refine wpAnyH_take (i := 6) (oi := _) (v := .pointer (some ⟨q, 3, none⟩)) rfl (by kernel_rfl) (by kernel_rfl) (by kernel_rfl) (fun _ _ _ h => h) (Or.inl ⟨by rfl, (by intro w' hSw; obtain ⟨x1, x2, x3, x4⟩ := unhide HU w' hSw; go_simp)⟩) (unhide HS0) ?_
  go_simp
  refine wpAnyH_take (i := 7) (oi := _) (v := .slice la L lc) rfl (by kernel_rfl) (by kernel_rfl) (by kernel_rfl) (fun _ _ _ h => h) (Or.inl ⟨by rfl, (by intro w' hSw; obtain ⟨x1, x2, x3, x4⟩ := unhide HU w' hSw; go_simp)⟩) (unhide HS0) ?_
  go_simp
  refine wpAnyH_take (i := 8) (oi := _) (v := .int .i64 (L : Int)) rfl (by kernel_rfl) (by kernel_rfl) (by kernel_rfl) (fun _ _ _ h => h) (Or.inl ⟨by rfl, (by intro w' hSw; obtain ⟨x1, x2, x3, x4⟩ := unhide HU w' hSw; go_simp)⟩) (unhide HS0) ?_
  go_simp
  refine wpAnyH_take (i := 9) (oi := _) (v := .slice (some ⟨g, off, none⟩) L cap) rfl (by kernel_rfl) (by kernel_rfl) (by kernel_rfl) (fun _ _ _ h => h) (Or.inl ⟨by rfl, (by intro w' hSw; obtain ⟨x1, x2, x3, x4⟩ := unhide HU w' hSw; go_simp)⟩) (unhide HS0) ?_
  go_simp
  refine wpAnyH_take (i := 10) (oi := _) (v := .pointer (some ⟨q, 4, none⟩)) rfl (by kernel_rfl) (by kernel_rfl) (by kernel_rfl) (fun _ _ _ h => h) (Or.inl ⟨by rfl, (by intro w' hSw; obtain ⟨x1, x2, x3, x4⟩ := unhide HU w' hSw; go_simp)⟩) (unhide HS0) ?_
  go_simp
  refine wpAnyH_take (i := 11) (oi := _) (v := .int .i64 k) rfl (by kernel_rfl) (by kernel_rfl) (by kernel_rfl) (fun _ _ _ h => h) (Or.inl ⟨by rfl, (by intro w' hSw; obtain ⟨x1, x2, x3, x4⟩ := unhide HU w' hSw; go_simp)⟩) (unhide HS0) ?_
  go_simp
  refine wpAnyH_ready (rs := [12]) (by kernel_rfl) (by simp) ?_
  refine AllReadyH.cons (o := _) rfl (fun K hK => ?_) AllReadyH.nil
  go_simp
  refine (unhide HNT).mono ?_
  rintro e w2 ⟨rfl, HBK, HF2⟩
  go_simp
  refine hK.out _ _ (unhide HF2) (fun _ => ?_)
  clear hK K
  go_simp
  refine wpAnyH_done (by kernel_rfl) ?_ _

  obtain ⟨x1, x2, x3, x4⟩ := unhide HU w2 (unhide HF2)
  have HRO2 : Hid (Ro w2 2 (.slice (some ⟨g, off, none⟩) M cap) M (flt enI (l ++ mkV 64))) := (unhide HR1).fr (unhide HF2) (fun b hb e => by have hbb : g = b := Option.some.inj hb; have := (unhide HZ1 _ e).2; have := (unhide HGQ).2; omega)
  have HR2 : Hid (Rx w2 2 (.slice (some ⟨g, off, none⟩) M cap) (l ++ mkV 64).length (flt enI (l ++ mkV 64))) := by unfold Hid; rw [unhide hM]; exact Rx.of_ro (unhide HRO2)
  have HL2 : Hid (Rx w2 2 (.slice la L lc) l.length (flt enI l)) := unhide HL w2 Z1 ((unhide HF01).trans (unhide HF2)) (fun b hb => .inl (unhide HZ1 b hb).1)
  go_wp2_with fail
  refine (keptV_any (l := l) (unhide HR2) (unhide HL2) (unhide HN)).mono ?_
  rintro e w3 ⟨rfl, hb3⟩
  clear x1 x2 x3 x4
  have HR3 : Hid (Ro w3 2 (.slice (some ⟨g, off, none⟩) M cap) M (flt enI (l ++ mkV 64))) := (unhide HRO2).fr (Fr.of_below (S := fun _ => False) hb3) (fun _ _ e => e)
  have HB3 := hide hb3
  clear hb3
  go_wp2_with fail
  go_loopg [7] M (fun gg t7 wr => ∃ (i : Nat) (xs : List (Int × Int)), Hid (i + gg = M) ∧ t7 = .int .i64 (i : Int) ∧ Hid (Ro wr 2 (.slice (some ⟨g, off, none⟩) M cap) M (flt enI xs) ∧ xs.length = M ∧ Fr (fun b => b = g) w3 wr))
  case atStart => exact ⟨0, _, by unfold Hid; omega, rfl, unhide HR3, unhide hM, Fr.refl _ _⟩
  case round =>
    obtain ⟨i, xs, hi, rfl, hK⟩ := hrel
    by_cases hlt : i < M
    · have i0 : (0 : Int) ≤ (i : Int) := by omega
      have i1 : (i : Int) < (M : Int) := by omega
      have hro := (unhide hK).1
      obtain ⟨g', off', cap', eg, -, -, hgl, hgc⟩ := hro.full (by omega)
      cases eg
      have fz : ∀ k, wr.frozen? ⟨g, k, none⟩ = false := fun k => hro.free rfl k
      have yy : ∀ c, c < 2 → ∃ u, wr.cell? ⟨g, off + i * 2 + c, none⟩ = some u := fun c hc => by
        have := hgc (i * 2 + c) (by omega)
        rw [← Nat.add_assoc] at this
        rw [this]
        exact ⟨_, List.getElem?_eq_getElem (by rw [hro.1]; omega)⟩
      obtain ⟨u0, y0⟩ := yy 0 (by omega)
      obtain ⟨u1, y1⟩ := yy 1 (by omega)
      rw [Nat.add_zero] at y0
      have fz0 := fz (off + i * 2)
      have fz1 := fz (off + i * 2 + 1)
      have HPT : Hid (∀ d : Int, Ro ((wr.setCell ⟨g, off + i * 2, none⟩ (.int .i64 d)).setCell ⟨g, off + i * 2 + 1, none⟩ (.int .i64 0)) 2 (.slice (some ⟨g, off, none⟩) M cap) M (flt enI (xs.set i (d, 0))) ∧ (xs.set i (d, 0)).length = M ∧ Fr (fun b => b = g) w3 ((wr.setCell ⟨g, off + i * 2, none⟩ (.int .i64 d)).setCell ⟨g, off + i * 2 + 1, none⟩ (.int .i64 0))) := fun d => by
        obtain ⟨r1, r2⟩ := hro.putAt zI (unhide hK).2.1 rfl hlt (d, 0)
        exact ⟨r1, by rw [List.length_set]; exact (unhide hK).2.1, (unhide hK).2.2.trans r2⟩
      clear hro hgc fz yy hK
      go_wp2_with fail
      go_roundg (gk - 1)
      case measure => have := unhide hi; omega
      case rel => exact ⟨i + 1, _, by have := unhide hi; unfold Hid; omega, by go_num, unhide HPT _⟩
    · have hiM : i = M := by have := unhide hi; omega
      subst hiM
      go_wp2_with fail
      go_ret
      have hf := (unhide hK).2.2
      have h3 := unhide HB3
      have hz2 := (unhide HF2).size
      refine ⟨rfl, unhide HBO _ _ (((unhide HBK).below h3).fr hf (fun b _ hb e => by have := (unhide HZ1 b hb).2; have := (unhide HGQ).2; omega)), ?_⟩
      have f1 : Fr Z w w1 := (unhide HF01).mono (fun b _ hb => (unhide HZ1 b hb).1)
      have f2 : Fr Z w1 w2 := (unhide HF2).mono (fun b _ hb => (unhide HZ1 b hb).1)
      exact ((f1.trans f2).trans (Fr.of_below h3)).step hf (fun b hb e => by have := (unhide HGQ).2; omega)
end Go.Proofs.YtclcebdcdbcpjaaGreat
namespace Go.Proofs.YtclcebdcdbcpjaaGreat
set_option linter.unusedVariables false
set_option linter.unusedSimpArgs false
/-- One note of the law. -/
structure Nt where
  on : Int
  fn : Int
  pc : Int
  ar : List (Int × Int)
  k : Int
  ak : Bool
def Nt.s (n : Nt) : Int × Int := (n.fn, n.pc)
def Nt.d (n : Nt) : Sp := ⟨1, kbt n.ar 0, kbt n.ar 1, n.k⟩
def ntP (f : List (List Sp)) (n : Nt) : List (List Sp) := noteP f n.s n.ar n.k
def nts (f : List (List Sp)) (ns : List Nt) : List (List Sp) := ns.foldl ntP f
def Gd (x : Sp) : Prop := okS x ∧ 0 ≤ x.c
theorem gdZ : Gd spZ := ⟨okSz, by simp [spZ]⟩
theorem Nt.gd {n : Nt} (h : I64 n.k) : Gd n.d := ⟨⟨by simp [Nt.d], kbt_ok _ _, kbt_ok _ _, h⟩, by simp [Nt.d]⟩
section
variable {x y z : Sp}
theorem Gd.tog (hx : Gd x) (hy : Gd y) : Gd (tog x y) := ⟨tog_ok hx.1 hy.1, cnt_nn hx.2 hy.2⟩
theorem Gd.comm (hx : Gd x) (hy : Gd y) : Go.Proofs.YtclcebdcdbcpjaaGreat.tog x y = Go.Proofs.YtclcebdcdbcpjaaGreat.tog y x := tog_comm hx.1 hy.1
theorem Gd.assoc (hx : Gd x) (hy : Gd y) (hz : Gd z) : Go.Proofs.YtclcebdcdbcpjaaGreat.tog (Go.Proofs.YtclcebdcdbcpjaaGreat.tog x y) z = Go.Proofs.YtclcebdcdbcpjaaGreat.tog x (Go.Proofs.YtclcebdcdbcpjaaGreat.tog y z) := tog_assoc hx.1 hy.1 hz.1 hx.2 hy.2 hz.2
theorem Gd.right (hx : Gd x) : Go.Proofs.YtclcebdcdbcpjaaGreat.tog x spZ = x := by rw [hx.comm gdZ]; exact tog_zero hx.1
end
def sumT (l : List Sp) : Sp := l.foldr tog spZ
theorem sumT_gd {l : List Sp} (h : ∀ x ∈ l, Gd x) : Gd (sumT l) := by
  induction l with
  | nil => exact gdZ
  | cons a l ih => exact (h a (by simp)).tog (ih (fun x hx => h x (by simp [hx])))
theorem sumT_cons (a : Sp) (l : List Sp) : sumT (a :: l) = tog a (sumT l) := rfl
theorem foldl_sum {l : List Sp} (h : ∀ x ∈ l, Gd x) {x : Sp} (hx : Gd x) : l.foldl tog x = tog x (sumT l) := by
  induction l generalizing x with
  | nil => exact hx.right.symm
  | cons a l ih =>
    have ha := h a (by simp)
    have hl : ∀ x ∈ l, Gd x := fun x hx => h x (by simp [hx])
    rw [List.foldl_cons, ih hl (hx.tog ha), sumT_cons]
    exact hx.assoc ha (sumT_gd hl)
theorem sumT_append {a b : List Sp} (ha : ∀ x ∈ a, Gd x) (hb : ∀ x ∈ b, Gd x) : sumT (a ++ b) = tog (sumT a) (sumT b) := by
  induction a with
  | nil => exact (tog_zero (sumT_gd hb).1).symm
  | cons c a ih =>
    have hc := ha c (by simp)
    have hl : ∀ x ∈ a, Gd x := fun x hx => ha x (by simp [hx])
    rw [List.cons_append, sumT_cons, sumT_cons, ih hl]
    exact (hc.assoc (sumT_gd hl) (sumT_gd hb)).symm
theorem sumT_rev {l : List Sp} (h : ∀ x ∈ l, Gd x) : sumT l.reverse = sumT l := by
  induction l with
  | nil => rfl
  | cons a l ih =>
    have ha := h a (by simp)
    have hl : ∀ x ∈ l, Gd x := fun x hx => h x (by simp [hx])
    rw [List.reverse_cons, sumT_append (fun x hx => hl x (by simpa using hx)) (fun x hx => by simp at hx; rw [hx]; exact ha), ih hl, sumT_cons, sumT_cons]
    rw [show sumT [] = spZ from rfl, ha.right]
    exact (sumT_gd hl).comm ha
theorem sumT_part (p : Nt → Bool) {ns : List Nt} (h : ∀ n ∈ ns, Gd n.d) : sumT (ns.map Nt.d) = tog (sumT ((ns.filter (fun n => !p n)).map Nt.d)) (sumT ((ns.filter p).map Nt.d)) := by
  induction ns with
  | nil => exact gdZ.right.symm
  | cons a l ih =>
    have ha := h a (by simp)
    have hl : ∀ n ∈ l, Gd n.d := fun n hn => h n (by simp [hn])
    have h1 : Gd (sumT ((l.filter (fun n => !p n)).map Nt.d)) := sumT_gd (fun x hx => by
      obtain ⟨n, hn, rfl⟩ := List.mem_map.1 hx
      exact hl n (List.mem_filter.1 hn).1)
    have h2 : Gd (sumT ((l.filter p).map Nt.d)) := sumT_gd (fun x hx => by
      obtain ⟨n, hn, rfl⟩ := List.mem_map.1 hx
      exact hl n (List.mem_filter.1 hn).1)
    rw [List.map_cons, sumT_cons, ih hl]
    cases hp : p a with
    | true =>
      rw [List.filter_cons_of_neg (by simp [hp]), List.filter_cons_of_pos (by simp [hp]), List.map_cons, sumT_cons]
      rw [← ha.assoc h1 h2, ha.comm h1, h1.assoc ha h2]
    | false =>
      rw [List.filter_cons_of_pos (by simp [hp]), List.filter_cons_of_neg (by simp [hp]), List.map_cons, sumT_cons]
      exact (ha.assoc h1 h2).symm
theorem spAt_note (f : List (List Sp)) (n : Nt) (t : Int × Int) : spAt (ntP f n) t = if n.s = t then (spAt f t).map (fun x => tog x n.d) else spAt f t := by
  unfold ntP noteP
  cases e : spAt f n.s with
  | none =>
    simp only
    by_cases h : n.s = t
    · subst h; rw [if_pos rfl, e]; rfl
    · rw [if_neg h]
  | some x =>
    simp only
    rw [spAt_set e]
    by_cases h : n.s = t
    · subst h; rw [if_pos rfl, if_pos rfl, e]; rfl
    · rw [if_neg (fun q => h q.symm), if_neg h]
theorem ntP_lens (f : List (List Sp)) (n : Nt) : (ntP f n).map List.length = f.map List.length := by
  unfold ntP noteP
  cases e : spAt f n.s with
  | none => rfl
  | some x => exact setAt_lens e _
theorem nts_lens (f : List (List Sp)) (ns : List Nt) : (nts f ns).map List.length = f.map List.length := by
  induction ns generalizing f with
  | nil => rfl
  | cons a l ih => exact (ih (ntP f a)).trans (ntP_lens f a)
/-- The notes of one place. -/
def atN (t : Int × Int) (ns : List Nt) : List Nt := ns.filter (fun n => decide (n.s = t))
theorem spAt_nts (f : List (List Sp)) (ns : List Nt) (t : Int × Int) : spAt (nts f ns) t = (spAt f t).map (fun x => ((atN t ns).map Nt.d).foldl tog x) := by
  induction ns generalizing f with
  | nil => simp [nts, atN]
  | cons a l ih =>
    rw [show nts f (a :: l) = nts (ntP f a) l from rfl, ih, spAt_note]
    unfold atN
    by_cases h : a.s = t
    · rw [if_pos h, List.filter_cons_of_pos (by simp [h])]
      cases spAt f t <;> rfl
    · rw [if_neg h, List.filter_cons_of_neg (by simp [h])]
theorem spAt_lens {f g : List (List Sp)} (h : f.map List.length = g.map List.length) (t : Int × Int) : (spAt f t).isSome = (spAt g t).isSome := by
  have h1 := spAt_plc f t
  have h2 := spAt_plc g t
  rw [h] at h1
  exact Bool.eq_iff_iff.2 (h1.trans h2.symm)
theorem sp_ext {f g : List (List Sp)} (h : f.map List.length = g.map List.length) (ha : ∀ t, spAt f t = spAt g t) : f = g := by
  have hl : f.length = g.length := by have := congrArg List.length h; simpa using this
  refine List.ext_getElem hl (fun n h1 h2 => ?_)
  have e : f[n].length = g[n].length := by
    have := congrArg (fun l => l[n]?) h
    simpa [h1, h2] using this
  refine List.ext_getElem e (fun k k1 k2 => ?_)
  have a1 := spAt_of (f := f) (List.getElem?_eq_getElem h1) (List.getElem?_eq_getElem k1)
  have a2 := spAt_of (f := g) (List.getElem?_eq_getElem h2) (List.getElem?_eq_getElem k2)
  rw [ha, a2] at a1
  exact (Option.some.inj a1).symm
theorem mrg_lens {f g : List (List Sp)} (h : f.map List.length = g.map List.length) : (mrg f g).map List.length = f.map List.length := by
  have hl : f.length = g.length := by have := congrArg List.length h; simpa using this
  refine List.ext_getElem (by simp [mrg_len, hl]) (fun n h1 h2 => ?_)
  rw [List.getElem_map, List.getElem_map]
  have q1 : n < (mrg f g).length := by simpa using h1
  have q2 : n < f.length := by simpa using h2
  have q3 : n < g.length := by omega
  have e : f[n].length = g[n].length := by
    have := congrArg (fun l => l[n]?) h
    simpa [q2, q3] using this
  have a1 := szP_at (f := mrg f g) (List.getElem?_eq_getElem q1)
  have a2 := szP_at (f := f) (List.getElem?_eq_getElem q2)
  have a3 := szP_at (f := g) (List.getElem?_eq_getElem q3)
  rw [szP_mrg] at a1
  omega
theorem spAt_mrg {f g : List (List Sp)} (h : f.map List.length = g.map List.length) {t : Int × Int} {x y : Sp} (hx : spAt f t = some x) (hy : spAt g t = some y) : spAt (mrg f g) t = some (tog x y) := by
  obtain ⟨i, j, l, rfl, h1, h2⟩ := spAt_some hx
  obtain ⟨i', j', l', e, h3, h4⟩ := spAt_some hy
  have e1 : i = i' := by have := congrArg Prod.fst e; simp at this; omega
  have e2 : j = j' := by have := congrArg Prod.snd e; simp at this; omega
  subst e1
  subst e2
  have hs : (spAt (mrg f g) ((i : Int), (j : Int))).isSome = true := by rw [spAt_lens (mrg_lens h), hx]; rfl
  obtain ⟨z, hz⟩ := Option.isSome_iff_exists.1 hs
  obtain ⟨i2, j2, l2, e, h5, h6⟩ := spAt_some hz
  have e1 : i = i2 := by have := congrArg Prod.fst e; simp at this; omega
  have e2 : j = j2 := by have := congrArg Prod.snd e; simp at this; omega
  subst e1
  subst e2
  rw [hz, ← atP_at (f := mrg f g) h5 h6, atP_mrg, atP_at (f := f) h1 h2, atP_at (f := g) h3 h4]
theorem newP_sp {sh : List Nat} {F : List (List Sp)} {t : Int × Int} {x : Sp} (h : spAt (newP sh F) t = some x) : x = atP F t.1 t.2 := by
  obtain ⟨i, j, l, rfl, h1, h2⟩ := spAt_some h
  have hi := (List.getElem?_eq_some_iff.1 h1).1
  rw [newP_len] at hi
  rw [newP_at (List.getElem?_eq_getElem hi)] at h1
  cases h1
  rw [List.getElem?_map] at h2
  cases e : (List.range sh[i])[j]? with
  | none => rw [e] at h2; cases h2
  | some k =>
    rw [e] at h2
    have hk : k = j := by
      have := List.getElem?_eq_some_iff.1 e
      obtain ⟨_, q⟩ := this
      simpa using q.symm
    subst hk
    exact (Option.some.inj h2).symm
/-- Notes that two books made between them. -/
theorem nts_cut {sh : List Nat} {F : List (List Sp)} (hF : OkF F) (cF : cntB F = true) {ns : List Nt} (hn : ∀ n ∈ ns, I64 n.k) (p : Nt → Bool) :
    nts (newP sh F) ns = mrg (nts (newP sh F) (ns.reverse.filter (fun n => !p n))) (nts (newP sh []) (ns.reverse.filter p)) := by
  have hlen : (nts (newP sh F) (ns.reverse.filter (fun n => !p n))).map List.length = (nts (newP sh []) (ns.reverse.filter p)).map List.length := by rw [nts_lens, nts_lens, newP_lens, newP_lens]
  refine sp_ext (by rw [mrg_lens hlen, nts_lens, nts_lens]) (fun t => ?_)
  cases e : spAt (newP sh F) t with
  | none =>
    have h1 : (spAt (mrg (nts (newP sh F) (ns.reverse.filter (fun n => !p n))) (nts (newP sh []) (ns.reverse.filter p))) t).isSome = false := by
      rw [spAt_lens (f := mrg _ _) (g := newP sh F) (by rw [mrg_lens hlen, nts_lens]), e]; rfl
    rw [spAt_nts, e]
    cases q : spAt (mrg (nts (newP sh F) (ns.reverse.filter (fun n => !p n))) (nts (newP sh []) (ns.reverse.filter p))) t with
    | none => rfl
    | some x => rw [q] at h1; cases h1
  | some x =>
    have hs : (spAt (newP sh []) t).isSome = true := by rw [spAt_lens (g := newP sh F) (by rw [newP_lens, newP_lens]), e]; rfl
    obtain ⟨z, hz⟩ := Option.isSome_iff_exists.1 hs
    have ez : z = spZ := by rw [newP_sp hz]; exact atP_nil _ _
    subst ez
    have hx : Gd x := by
      obtain ⟨i, j, l, rfl, h1, h2⟩ := spAt_some e
      rw [newP_sp e]
      exact ⟨hF.atP' _ _, cntB_at cF i j⟩
    have hg : ∀ n ∈ ns, Gd n.d := fun n h => Nt.gd (hn n h)
    have hsub : ∀ q : Nt → Bool, ∀ x ∈ (atN t (ns.reverse.filter q)).map Nt.d, Gd x := fun q x hx => by
      obtain ⟨n, hn, rfl⟩ := List.mem_map.1 hx
      have := (List.mem_filter.1 (List.mem_filter.1 hn).1).1
      exact hg n (by simpa using this)
    have hat : ∀ n ∈ atN t ns, Gd n.d := fun n h => hg n (List.mem_filter.1 h).1
    have hat2 : ∀ x ∈ (atN t ns).map Nt.d, Gd x := fun x hx => by
      obtain ⟨n, hn, rfl⟩ := List.mem_map.1 hx
      exact hat n hn
    rw [spAt_nts, e]
    rw [spAt_mrg hlen (by rw [spAt_nts, e]; rfl) (by rw [spAt_nts, hz]; rfl)]
    simp only [Option.map_some]
    rw [foldl_sum hat2 hx, foldl_sum (hsub _) hx, foldl_sum (hsub _) gdZ, tog_zero (sumT_gd (hsub _)).1]
    have hrev : ∀ q : Nt → Bool, sumT ((atN t (ns.reverse.filter q)).map Nt.d) = sumT (((atN t ns).filter q).map Nt.d) := fun q => by
      have : (atN t (ns.reverse.filter q)).map Nt.d = (((atN t ns).filter q).map Nt.d).reverse := by
        unfold atN
        rw [List.filter_filter, List.filter_filter, List.filter_reverse, List.map_reverse]
        congr 2
        refine List.filter_congr (fun n _ => ?_)
        exact Bool.and_comm _ _
      rw [this, sumT_rev (fun x hx => by
        obtain ⟨n, hn, rfl⟩ := List.mem_map.1 hx
        exact hat n (List.mem_filter.1 hn).1)]
    rw [hrev, hrev, hx.assoc (sumT_gd (fun x hx => by
        obtain ⟨n, hn, rfl⟩ := List.mem_map.1 hx
        exact hat n (List.mem_filter.1 hn).1)) (sumT_gd (fun x hx => by
        obtain ⟨n, hn, rfl⟩ := List.mem_map.1 hx
        exact hat n (List.mem_filter.1 hn).1)), ← sumT_part p hat]
/-- What is counted is how many notes there were. -/
theorem sumT_count {ns : List Nt} (h : ns.length < 9223372036854775807) : (sumT (ns.map Nt.d)).c = (ns.length : Int) := by
  induction ns with
  | nil => rfl
  | cons a l ih =>
    have hl : l.length < 9223372036854775807 := by simp at h; omega
    have h2 : l.length + 1 < 9223372036854775807 := by simpa using h
    rw [List.map_cons, sumT_cons, show (tog a.d (sumT (l.map Nt.d))).c = cnt 1 (sumT (l.map Nt.d)).c from rfl, ih hl]
    unfold cnt
    rw [List.length_cons]
    repeat' split
    all_goals omega
theorem nts_count {sh : List Nat} {ns : List Nt} (hn : ∀ n ∈ ns, I64 n.k) (hl : ns.length < 9223372036854775807) {t : Int × Int} {x : Sp} (h : spAt (nts (newP sh []) ns) t = some x) : x.c = ((atN t ns).length : Int) := by
  rw [spAt_nts] at h
  cases e : spAt (newP sh []) t with
  | none => rw [e] at h; cases h
  | some z =>
    have ez : z = spZ := by rw [newP_sp e]; exact atP_nil _ _
    subst ez
    rw [e] at h
    have h : ((atN t ns).map Nt.d).foldl tog spZ = x := Option.some.inj h
    have hat2 : ∀ x ∈ (atN t ns).map Nt.d, Gd x := fun x hx => by
      obtain ⟨n, q, rfl⟩ := List.mem_map.1 hx
      exact Nt.gd (hn n (List.mem_filter.1 q).1)
    rw [foldl_sum hat2 gdZ, tog_zero (sumT_gd hat2).1] at h
    rw [← h]
    have := List.length_filter_le (fun n => decide (n.s = t)) ns
    exact sumT_count (by unfold atN; omega)
end Go.Proofs.YtclcebdcdbcpjaaGreat
namespace Go.Proofs.YtclcebdcdbcpjaaGreat
open Go.RowKit
set_option linter.unusedVariables false
set_option linter.unusedSimpArgs false
def enM (x : Nt × Value) : List Value := [.int .i64 x.1.on, .int .i64 x.1.fn, .int .i64 x.1.pc, x.2, .int .i64 x.1.k, .bool x.1.ak]
theorem zM : ∀ p, (enM p).length = 6 := fun _ => rfl
/-- Notes that can be read. -/
def NtV (w : World) (v : Value) (ns : List Nt) : Prop :=
  ∃ xs : List (Nt × Value), xs.map Prod.fst = ns ∧ Rx w 6 v xs.length (flt enM xs) ∧ ∀ x ∈ xs, Rx w 2 x.2 x.1.ar.length (flt enI x.1.ar)
theorem NtV.below {w w' : World} {v : Value} {ns : List Nt} {B : Nat} (h : NtV w v ns) (k : Below B w w') (hB : w.heap.size ≤ B) : NtV w' v ns := by
  obtain ⟨xs, h1, h2, h3⟩ := h
  exact ⟨xs, h1, h2.below k hB, fun x hx => (h3 x hx).below k hB⟩
theorem NtV.shape {w : World} {v : Value} {ns : List Nt} (h : NtV w v ns) : ∃ a cap, v = .slice a ns.length cap ∧ ns.length ≤ cap ∧ cap ≤ maxLen := by
  obtain ⟨xs, h1, h2, _⟩ := h
  obtain ⟨a, cap, e, m1, m2⟩ := h2.shape
  have : xs.length = ns.length := by rw [← h1, List.length_map]
  exact ⟨a, cap, by rw [e, this], by omega, m2⟩
/-- One note's cells. -/
theorem NtV.at {w : World} {a : Option Addr} {m cap : Nat} {ns : List Nt} (h : NtV w (.slice a m cap) ns) {i : Nat} {n : Nt} (hn : ns[i]? = some n) :
    ∃ b off la lc, a = some ⟨b, off, none⟩ ∧ b < w.heap.size ∧ (w.cell? ⟨b, off + i * 6, none⟩ = some (.int .i64 n.on) ∧ w.cell? ⟨b, off + i * 6 + 1, none⟩ = some (.int .i64 n.fn) ∧ w.cell? ⟨b, off + i * 6 + 2, none⟩ = some (.int .i64 n.pc) ∧ w.cell? ⟨b, off + i * 6 + 3, none⟩ = some (.slice la n.ar.length lc) ∧ w.cell? ⟨b, off + i * 6 + 4, none⟩ = some (.int .i64 n.k) ∧ w.cell? ⟨b, off + i * 6 + 5, none⟩ = some (.bool n.ak)) ∧ Rx w 2 (.slice la n.ar.length lc) n.ar.length (flt enI n.ar) := by
  obtain ⟨xs, rfl, h2, h3⟩ := h
  rw [List.getElem?_map] at hn
  cases e : xs[i]? with
  | none => rw [e] at hn; cases hn
  | some x =>
    rw [e] at hn
    obtain rfl : x.1 = n := Option.some.inj hn
    obtain ⟨b, off, cap', e2, _, _, hb, hc⟩ := h2.elem zM e
    cases e2
    have hr := h3 x (List.mem_of_getElem? e)
    obtain ⟨la, lc, e4, m1, m2⟩ := hr.shape
    have q3 := hc 3 _ rfl
    rw [e4] at hr q3
    exact ⟨b, off, la, lc, rfl, hb, ⟨hc 0 _ rfl, hc 1 _ rfl, hc 2 _ rfl, q3, hc 4 _ rfl, hc 5 _ rfl⟩, hr⟩
theorem okF_sp {f : List (List Sp)} (h : ∀ t x, spAt f t = some x → okS x) : OkF f := fun l hl s hs => by
  obtain ⟨n, hn, rfl⟩ := List.getElem_of_mem hl
  obtain ⟨k, hk, rfl⟩ := List.getElem_of_mem hs
  exact h _ _ (spAt_of (List.getElem?_eq_getElem hn) (List.getElem?_eq_getElem hk))
theorem ntP_ok {f : List (List Sp)} (h : OkF f) {n : Nt} (hn : I64 n.k) : OkF (ntP f n) := okF_sp (fun t x hx => by
  rw [spAt_note] at hx
  split at hx
  · cases e : spAt f t with
    | none => rw [e] at hx; cases hx
    | some y =>
      rw [e] at hx
      cases hx
      exact tog_ok (h.at e) (Nt.gd hn).1
  · exact h.at hx)
theorem nts_ok {f : List (List Sp)} (h : OkF f) {ns : List Nt} (hn : ∀ n ∈ ns, I64 n.k) : OkF (nts f ns) := by
  induction ns generalizing f with
  | nil => exact h
  | cons a l ih => exact ih (ntP_ok h (hn a (by simp))) (fun n q => hn n (by simp [q]))
theorem nts_step {f : List (List Sp)} {ns : List Nt} {i : Nat} {n : Nt} (h : ns[i]? = some n) : nts f (ns.take (i + 1)) = ntP (nts f (ns.take i)) n := by
  unfold nts
  rw [List.take_add_one, h, List.foldl_append]
  rfl
/-- What the law asks of each note. -/
def OkN (n : Nt) : Prop := I64 n.on ∧ OkV (n.fn, n.pc) ∧ I64 n.k ∧ n.ar.length ≤ 5864062014634
def pck (k n : Int) : Int := if k.tmod n < 0 then k.tmod n + n else k.tmod n
theorem pck_bd (k : Int) {n : Int} (hn : 1 ≤ n) : 0 ≤ pck k n ∧ pck k n < n := by
  have hlo : -n < k.tmod n := Int.lt_tmod_of_pos k (show 0 < n by omega)
  have hhi : k.tmod n < n := Int.tmod_lt_of_pos k (by omega)
  unfold pck
  split <;> omega
set_option maxRecDepth 100000 in
theorem pick_any (w : World) (k n : Int) (hn : 1 ≤ n) (hm : n ≤ 17592186044416) :
    Calls Tryz.prog 16 #[.int .i64 k, .int .i64 n] w fun e w' => e = .returned (.int .i64 (pck k n)) ∧ w' = w := by
  have h1 : ¬ n < 1 := by omega
  have h0 : ¬ n = 0 := by omega
  have hlo : -n < k.tmod n := by have := Int.lt_tmod_of_pos k (show 0 < n by omega); exact this
  have hhi : k.tmod n < n := Int.tmod_lt_of_pos k (by omega)
  go_enter Tryz.func16, Tryz.ntmps16
  by_cases hneg : k.tmod n < 0
  · have e : pck k n = k.tmod n + n := if_pos hneg
    rw [e]
    go_wp2_with fail
    go_ret
    exact ⟨rfl, rfl⟩
  · have e : pck k n = k.tmod n := if_neg hneg
    rw [e]
    go_wp2_with fail
    go_ret
    exact ⟨rfl, rfl⟩

end Go.Proofs.YtclcebdcdbcpjaaGreat
namespace Go.Proofs.YtclcebdcdbcpjaaGreat
open Go.RowKit
set_option linter.unusedVariables false
set_option linter.unusedSimpArgs false
/-- A book that is being told notes, and what was there ahead of it. -/
def TlI (B : Nat) (W0 : World) (p : Nat) (f : List (List Sp)) (wr : World) : Prop := BkM (fun k => B ≤ k) wr p f ∧ OkF f ∧ Below B W0 wr
theorem TlI.told {B : Nat} {W0 wr w' : World} {p : Nat} {f g : List (List Sp)} (h : TlI B W0 p f wr) (hB : B ≤ W0.heap.size) (h1 : BkM (fun k => B ≤ k) w' p g) (hg : OkF g) (h2 : Fr (fun k => B ≤ k) wr w') : TlI B W0 p g w' :=
  ⟨h1, hg, h.2.2.trans (h2.below (Nat.le_trans hB h.2.2.size) (fun k hk e => by omega))⟩
set_option maxRecDepth 100000 in
set_option maxHeartbeats 1600000 in
theorem counts_any {w : World} {pv nv : Value} {sh : List Nat} {ns : List Nt} (hp : PgL w pv sh) (hn : NtV w nv ns) (hok : ∀ n ∈ ns, OkN n) (hnl : ns.length ≤ 5864062014634) (hL : sh.length ≤ 5864062014634) (hsum : sh.sum ≤ 5864062014634) :
    Calls Tryz.prog 13 #[pv, nv] w fun e w' => e = .returned (.bool true) ∧ Below w.heap.size w w' := by
  have HP := hide (fun W (hW : Below w.heap.size w W) => hp.below hW (Nat.le_refl _))
  have HN := hide (fun W (hW : Below w.heap.size w W) => hn.below hW (Nat.le_refl _))
  have HLT := hide (fun (i : Nat) (n : Nt) (h : ns[i]? = some n) => hok n (List.mem_of_getElem? h))
  have HKK : Hid (∀ n ∈ ns, I64 n.k) := fun n h => (hok n h).2.2.1
  obtain ⟨cv, fa, xs, rfl, hx1, hx2, ⟨ca, cn, cc, rfl⟩, hx4⟩ := hp
  obtain ⟨ra, rc, rfl, hr1, hr2⟩ := hx2.shape
  obtain ⟨na, nc, rfl, hn1, hn2⟩ := hn.shape
  obtain ⟨NF, hNF⟩ : ∃ NF, Hid (sh.length = NF) := ⟨_, hide rfl⟩
  have hxl : xs.length = NF := by rw [hx1]; exact unhide hNF
  obtain ⟨NN, hNN⟩ : ∃ NN, Hid (ns.length = NN) := ⟨_, hide rfl⟩
  rw [hxl] at HP hr1 ⊢
  rw [unhide hNN] at HN hn1 ⊢
  unfold maxLen at hr2 hn2
  have HNB := hide (fun (W : World) (i : Nat) (n : Nt) (h : ns[i]? = some n) (hW : Below w.heap.size w W) => (unhide HN w (Below.refl _ _)).at h)
  have HLL := hide hL
  have HNL := hide hnl
  have HSM := hide hsum
  clear hx2 hn hok hxl hL hsum hnl
  obtain ⟨q, hq⟩ : ∃ q, Hid (w.heap.size = q) := ⟨_, hide rfl⟩
  obtain ⟨W0, hW0⟩ : ∃ W, Hid (w.alloc (.cells #[.slice ca cn cc, .slice ra NF rc] 41) = W) := ⟨_, hide rfl⟩
  have HB0 : Hid (Below w.heap.size w W0) := by unfold Hid; rw [← unhide hW0]; exact (Below.refl _ w).alloc (Nat.le_refl _) _
  have k0 : W0.heap[q]? = some (.cells #[.slice ca cn cc, .slice ra NF rc] 41) := by rw [← unhide hW0, ← unhide hq]; exact heap_alloc_new w _
  have HK0 := hide k0
  have c0 := (blk_cells k0).1 0
  have c1 := (blk_cells k0).1 1
  have l0 := (blk_cells k0).2.2
  clear k0
  go_enter Tryz.func13, Tryz.ntmps13
  go_wp2_with fail
  rw [unhide hq, unhide hW0]
  clear hW0
  go_wp2_with fail
  refine (new_any (f := []) (unhide HP W0 (unhide HB0)) (PfV.nil _) (fun l hl => by simp at hl) (unhide HLL) (unhide HSM)).mono ?_
  rintro e w1 ⟨p, rfl, hbk, hb1⟩
  clear c0 c1
  have HT1 : Hid (TlI W0.heap.size W0 p (nts (newP sh []) (ns.take 0)) w1) := ⟨hbk, newP_ok (fun l hl => by simp at hl), hb1⟩
  clear hbk hb1
  go_wp2_with fail
  go_loopg [6] NN (fun gg t6 wr => ∃ (i : Nat), Hid (i + gg = NN) ∧ t6 = .int .i64 (i : Int) ∧ Hid (TlI W0.heap.size W0 p (nts (newP sh []) (ns.take i)) wr))
  case atStart => exact ⟨0, by unfold Hid; omega, rfl, HT1⟩
  case round =>
    clear HT1
    obtain ⟨i, hi, rfl, hI⟩ := hrel
    by_cases hlt : i < NN
    · have i0 : (0 : Int) ≤ (i : Int) := by omega
      have i1 : (i : Int) < (NN : Int) := by omega
      have HIT := hide hlt
      obtain ⟨n, hn⟩ : ∃ n, ns[i]? = some n := ⟨_, List.getElem?_eq_getElem (by rw [unhide hNN]; exact hlt)⟩
      have HBW : Hid (Below w.heap.size w wr) := (unhide HB0).trans ((unhide hI).2.2.mono (unhide HB0).size)
      obtain ⟨b, off, la, lc, rfl, hbl, ⟨n0, n1, n2, n3, n4, n5⟩, hrx⟩ := (unhide HN wr (unhide HBW)).at hn
      have hbw : b < w.heap.size := by
        obtain ⟨b', off', la', lc', e, hb', _⟩ := (unhide HN w (Below.refl _ _)).at hn
        cases e
        exact hb'
      have hz : 0 < n.ar.length → ∀ b, (Value.slice la n.ar.length lc).ownBlock = some b → ¬ W0.heap.size ≤ b := fun h0 b2 hb2 => by
        obtain ⟨b', off', la', lc', e, hb', ⟨_, _, _, m3, _, _⟩, hr'⟩ := (unhide HN w (Below.refl _ _)).at hn
        cases e
        have := ((unhide HBW).cell (p := ⟨b, off + i * 6 + 3, none⟩) hb').symm.trans n3
        rw [m3] at this
        cases this
        obtain ⟨_, a, c, e1, _, _, e2⟩ := hr'
        cases e1
        obtain ⟨b3, o3, e3, hlt3, _⟩ := e2 h0
        subst e3
        have hbb : b3 = b2 := Option.some.inj hb2
        have := (unhide HB0).size
        omega
      have HTL := hide (tellN_any (Z := fun k => W0.heap.size ≤ k) (unhide hI).1 (unhide hI).2.1 n.on n.fn n.pc (unhide HLT i n hn).2.1 hrx (unhide HLT i n hn).2.2.2 n.k (unhide HLT i n hn).2.2.1 n.ak hz)
      have HST : Hid (∀ w', BkM (fun k => W0.heap.size ≤ k) w' p (noteP (nts (newP sh []) (ns.take i)) (n.fn, n.pc) n.ar n.k) → Fr (fun k => W0.heap.size ≤ k) wr w' → TlI W0.heap.size W0 p (nts (newP sh []) (ns.take (i + 1))) w') := fun w' h1 h2 => by
        rw [nts_step hn]
        exact (unhide hI).told (Nat.le_refl _) h1 (ntP_ok (unhide hI).2.1 (unhide HLT i n hn).2.2.1) h2
      obtain ⟨AL, hAL⟩ : ∃ AL, Hid (n.ar.length = AL) := ⟨_, hide rfl⟩
      rw [unhide hAL] at n3 HTL
      clear hrx hz hI hn
      go_wp2_with fail
      refine (unhide HTL).mono ?_
      rintro e w2 ⟨rfl, h1, h2⟩
      have HT2 := hide (unhide HST w2 h1 h2)
      clear h1 h2 n0 n1 n2 n3 n4 n5
      go_wp2_with fail
      go_roundg (gk - 1)
      case measure => have := unhide hi; have := unhide HIT; omega
      case rel => exact ⟨i + 1, by have h1 := unhide hi; have h2 := unhide HIT; unfold Hid; omega, by go_num, HT2⟩
    · have hiN : NN = i := by have := unhide hi; omega
      subst hiN
      have hT := unhide hI
      rw [List.take_of_length_le (by rw [unhide hNN]; exact Nat.le_refl _)] at hT
      have HT := hide hT
      have HPF := hide (profile_any hT.1 hT.2.1 (by have := congrArg List.length (nts_lens (newP sh []) ns); rw [newP_lens] at this; simp only [List.length_map] at this; rw [this]; exact unhide HLL) (by rw [nts_lens, newP_lens]; exact unhide HSM))
      clear hT hI
      go_wp2_with fail
      refine (unhide HPF).mono ?_
      rintro e w3 ⟨gv, vs, rfl, hso, hb3⟩
      obtain ⟨F, hF⟩ : ∃ F, Hid (nts (newP sh []) ns = F) := ⟨_, hide rfl⟩
      rw [unhide hF] at hso
      have HFL : Hid (F.map List.length = sh) := by unfold Hid; rw [← unhide hF, nts_lens, newP_lens]
      have HCO : Hid (∀ t x, spAt F t = some x → x.c = ((atN t ns).length : Int)) := fun t x hx => by rw [← unhide hF] at hx; exact nts_count (unhide HKK) (by have := unhide HNL; omega) hx
      have hFN : F.length = NF := by have := congrArg List.length (unhide HFL); rw [List.length_map, unhide hNF] at this; exact this
      have hpf := OW.pf hso
      obtain ⟨ga, gc, rfl, hg1, hg2⟩ := hpf.shape
      rw [hFN] at hpf hg1 ⊢
      have HFN := hide hFN
      unfold maxLen at hg2
      clear hso HPF hFN
      obtain ⟨xb, hxb⟩ : ∃ b, Hid (w3.heap.size = b) := ⟨_, hide rfl⟩
      obtain ⟨X, hX⟩ : ∃ X, Hid (w3.alloc (.cells #[.slice ga NF gc] 25) = X) := ⟨_, hide rfl⟩
      have hb3X : Below w3.heap.size w3 X := by rw [← unhide hX]; exact (Below.refl _ w3).alloc (Nat.le_refl _) _
      have hW0r : Below W0.heap.size W0 wr := (unhide HT).2.2
      have hW03 : Below W0.heap.size W0 w3 := hW0r.trans (hb3.mono hW0r.size)
      have hW0X : Below W0.heap.size W0 X := hW03.trans (hb3X.mono hW03.size)
      have HBX : Hid (Below w.heap.size w X) := (unhide HB0).trans (hW0X.mono (unhide HB0).size)
      have hxx : X.heap[xb]? = some (.cells #[.slice ga NF gc] 25) := by rw [← unhide hX, ← unhide hxb]; exact heap_alloc_new w3 _
      have HXS : Hid (Below X.heap.size X X) := Below.refl _ _
      have HDR : Hid (∀ V, Below X.heap.size X V → Below X.heap.size X V.drew) := fun V h => ⟨h.1, h.2, h.3, h.4, h.5⟩
      have HU : Hid (∀ V, Below X.heap.size X V → V.cell? ⟨q, 1, none⟩ = some (.slice ra NF rc) ∧ V.cell? ⟨xb, 0, none⟩ = some (.slice ga NF gc)) := fun V hV => by
        have k0 := unhide HK0
        have sx := (blk_cells hxx).2.2
        have z := hW0X.size
        exact ⟨(blk_cells ((hV.block q (by omega)).trans ((hW0X.block q l0).trans k0))).1 1, (blk_cells ((hV.block xb sx).trans hxx)).1 0⟩
      have HWV : Hid (∀ V, Below X.heap.size X V → Below w.heap.size w V) := fun V hV => (unhide HBX).trans (hV.mono (unhide HBX).size)
      have HPV : Hid (∀ V, Below X.heap.size X V → PfV V (.slice ga NF gc) F) := fun V hV => (hpf.below hb3X (Nat.le_refl _)).below hV (Nat.le_refl _)
      have HAT : Hid (∀ (V : World) (fn pc : Int), Below X.heap.size X V → Calls Tryz.prog 22 #[.agg #[.slice ga NF gc], .int .i64 fn, .int .i64 pc] V fun e V' => e = .returned (spV (atP F fn pc)) ∧ Hid (Below X.heap.size X V')) := fun V fn pc hV => (at_any (unhide HPV V hV) fn pc).mono (fun e V' ⟨h1, h3⟩ => ⟨h1, hV.trans (h3.mono hV.size)⟩)
      have HSH : Hid (∀ V, Below X.heap.size X V → Calls Tryz.prog 7 #[] V fun e V' => e = .returned (.bool true) ∧ Hid (Below X.heap.size X V')) := fun V hV => (shown_any V).mono (fun e V' ⟨h1, h3⟩ => ⟨h1, hV.trans (h3.mono hV.size)⟩)
      have y1 : (w3.alloc (.cells #[.slice ga NF gc] 25)).cell? ⟨q, 1, none⟩ = some (.slice ra NF rc) := by rw [unhide hX]; exact (unhide HU X (unhide HXS)).1
      clear hxx hb3X hW0r hW03 hW0X hpf hb3 HT
      go_wp2_with fail
      rw [unhide hxb, unhide hX]
      clear y1 hX
      go_loopg [8] NF (fun gg t8 wr => ∃ (fn : Nat), Hid (fn + gg = NF) ∧ t8 = .int .i64 (fn : Int) ∧ Hid (Below X.heap.size X wr))
      case atStart => exact ⟨0, by unfold Hid; omega, rfl, HXS⟩
      case round =>
        obtain ⟨fn, hfn, rfl, hI⟩ := hrel
        obtain ⟨x0, x1⟩ := unhide HU _ (unhide hI)
        by_cases hft : fn < NF
        · have f0 : (0 : Int) ≤ (fn : Int) := by omega
          have f1 : (fn : Int) < (NF : Int) := by omega
          have HFT := hide hft
          obtain ⟨n, hn⟩ : ∃ n, sh[fn]? = some n := ⟨_, List.getElem?_eq_getElem (by rw [unhide hNF]; exact hft)⟩
          obtain ⟨l, hl⟩ : ∃ l, F[fn]? = some l := ⟨_, List.getElem?_eq_getElem (by rw [unhide HFN]; exact hft)⟩
          have hln : l.length = n := by
            have := congrArg (fun z => z[fn]?) (unhide HFL)
            simp only [List.getElem?_map, hl, hn] at this
            exact Option.some.inj this
          obtain ⟨gb, go, la, lc, rfl, hgb, hrow0, hrx, hm1, hm2⟩ := (unhide HPV X (unhide HXS)).row hl
          rw [hln] at hrow0 hm1
          unfold maxLen at hm2
          obtain ⟨cv', fa', xs', e, e1, e2, e3, e4⟩ := unhide HP X (unhide HBX)
          cases e
          obtain ⟨x, hx⟩ : ∃ x, xs'[fn]? = some x := ⟨_, List.getElem?_eq_getElem (by rw [e1, unhide hNF]; exact hft)⟩
          obtain ⟨rb, ro, cap', e5, _, _, hrb, hcs⟩ := e2.elem zF hx
          have hxl' : xs'.length = NF := by rw [e1, unhide hNF]
          rw [hxl'] at e5
          clear hxl'
          cases e5
          obtain ⟨xa, xc, _, _, _, ex, _⟩ := e4 fn n x hn hx
          have hcd := hcs 3 _ rfl
          rw [ex] at hcd
          have hn63 : n ≤ 9223372036854775807 := by omega
          have HU2 : Hid (∀ V, Below X.heap.size X V → V.cell? ⟨q, 1, none⟩ = some (.slice (some ⟨rb, ro, none⟩) NF rc) ∧ V.cell? ⟨xb, 0, none⟩ = some (.slice (some ⟨gb, go, none⟩) NF gc) ∧ V.cell? ⟨gb, go + fn, none⟩ = some (.slice la n lc) ∧ V.cell? ⟨rb, ro + fn * 5 + 3, none⟩ = some (.slice xa n xc) ∧ gb < V.heap.size ∧ rb < V.heap.size) := fun V hV => ⟨(unhide HU V hV).1, (unhide HU V hV).2, (hV.cell (p := ⟨gb, go + fn, none⟩) hgb).trans hrow0, (hV.cell (p := ⟨rb, ro + fn * 5 + 3, none⟩) hrb).trans hcd, Nat.lt_of_lt_of_le hgb hV.size, Nat.lt_of_lt_of_le hrb hV.size⟩
          have HSP : Hid (∀ (j : Nat) (s : Sp), l[j]? = some s → ∃ sb so, la = some ⟨sb, so, none⟩ ∧ ∀ V, Below X.heap.size X V → sb < V.heap.size ∧ V.cell? ⟨sb, so + j * 4, none⟩ = some (.int .i64 s.c) ∧ V.cell? ⟨sb, so + j * 4 + 1, none⟩ = some (.int .u16 s.a) ∧ V.cell? ⟨sb, so + j * 4 + 2, none⟩ = some (.int .u16 s.b) ∧ V.cell? ⟨sb, so + j * 4 + 3, none⟩ = some (.int .i64 s.k)) := fun j s hs => by
            obtain ⟨sb, so, e, hsb, c0, c1, c2, c3⟩ := hrx.spot hs
            exact ⟨sb, so, e, fun V hV => ⟨Nat.lt_of_lt_of_le hsb hV.size, (hV.cell (p := ⟨sb, so + j * 4, none⟩) hsb).trans c0, (hV.cell (p := ⟨sb, so + j * 4 + 1, none⟩) hsb).trans c1, (hV.cell (p := ⟨sb, so + j * 4 + 2, none⟩) hsb).trans c2, (hV.cell (p := ⟨sb, so + j * 4 + 3, none⟩) hsb).trans c3⟩⟩
          have HL := hide hl
          have HLN := hide hln
          have HS0 := hide (unhide HDR _ (unhide hI))
          clear hl hln hrow0 hrx hcs hcd hx e1 e2 e3 e4 ex hn
          go_wp2_with fail
          clear x0 x1
          refine wp_region_held_drew (S := (fun V => Below X.heap.size X V)) (by kernel_rfl) (unhide HS0) (fun hHeld => ?_)
          clear hHeld
          refine wpAnyH_take (i := 0) (oi := _) (v := .pointer (some ⟨xb, 0, none⟩)) rfl (by kernel_rfl) (by kernel_rfl) (by kernel_rfl) (fun _ _ _ h => h) (Or.inl ⟨by rfl, (by intro w' hSw; obtain ⟨x0, x1, x2, x3, x4, x5⟩ := unhide HU2 w' hSw; go_simp)⟩) (unhide HS0) ?_
          go_simp
          refine wpAnyH_take (i := 1) (oi := _) (v := .slice (some ⟨gb, go, none⟩) NF gc) rfl (by kernel_rfl) (by kernel_rfl) (by kernel_rfl) (fun _ _ _ h => h) (Or.inl ⟨by rfl, (by intro w' hSw; obtain ⟨x0, x1, x2, x3, x4, x5⟩ := unhide HU2 w' hSw; go_simp)⟩) (unhide HS0) ?_
          go_simp
          refine wpAnyH_take (i := 2) (oi := _) (v := .int .i64 (fn : Int)) rfl (by kernel_rfl) (by kernel_rfl) (by kernel_rfl) (fun _ _ _ h => h) (Or.inl ⟨by rfl, (by intro w' hSw; obtain ⟨x0, x1, x2, x3, x4, x5⟩ := unhide HU2 w' hSw; go_simp)⟩) (unhide HS0) ?_
          go_simp
          refine wpAnyH_take (i := 3) (oi := _) (v := .pointer (some ⟨gb, go + fn, none⟩)) rfl (by kernel_rfl) (by kernel_rfl) (by kernel_rfl) (fun _ _ _ h => h) (Or.inl ⟨by rfl, (by intro w' hSw; obtain ⟨x0, x1, x2, x3, x4, x5⟩ := unhide HU2 w' hSw; go_simp)⟩) (unhide HS0) ?_
          go_simp
          refine wpAnyH_take (i := 4) (oi := _) (v := .slice la n lc) rfl (by kernel_rfl) (by kernel_rfl) (by kernel_rfl) (fun _ _ _ h => h) (Or.inl ⟨by rfl, (by intro w' hSw; obtain ⟨x0, x1, x2, x3, x4, x5⟩ := unhide HU2 w' hSw; go_simp)⟩) (unhide HS0) ?_
          go_simp
          refine wpAnyH_take (i := 5) (oi := _) (v := .int .i64 (n : Int)) rfl (by kernel_rfl) (by kernel_rfl) (by kernel_rfl) (fun _ _ _ h => h) (Or.inl ⟨by rfl, (by intro w' hSw; obtain ⟨x0, x1, x2, x3, x4, x5⟩ := unhide HU2 w' hSw; go_simp)⟩) (unhide HS0) ?_
          go_simp
          refine wpAnyH_take (i := 6) (oi := _) (v := .pointer (some ⟨q, 1, none⟩)) rfl (by kernel_rfl) (by kernel_rfl) (by kernel_rfl) (fun _ _ _ h => h) (Or.inl ⟨by rfl, (by intro w' hSw; obtain ⟨x0, x1, x2, x3, x4, x5⟩ := unhide HU2 w' hSw; go_simp)⟩) (unhide HS0) ?_
          go_simp
          refine wpAnyH_take (i := 7) (oi := _) (v := .slice (some ⟨rb, ro, none⟩) NF rc) rfl (by kernel_rfl) (by kernel_rfl) (by kernel_rfl) (fun _ _ _ h => h) (Or.inl ⟨by rfl, (by intro w' hSw; obtain ⟨x0, x1, x2, x3, x4, x5⟩ := unhide HU2 w' hSw; go_simp)⟩) (unhide HS0) ?_
          go_simp
          refine wpAnyH_take (i := 8) (oi := _) (v := .int .i64 (fn : Int)) rfl (by kernel_rfl) (by kernel_rfl) (by kernel_rfl) (fun _ _ _ h => h) (Or.inl ⟨by rfl, (by intro w' hSw; obtain ⟨x0, x1, x2, x3, x4, x5⟩ := unhide HU2 w' hSw; go_simp)⟩) (unhide HS0) ?_
          go_simp
          refine wpAnyH_take (i := 9) (oi := _) (v := .pointer (some ⟨rb, ro + fn * 5, none⟩)) rfl (by kernel_rfl) (by kernel_rfl) (by kernel_rfl) (fun _ _ _ h => h) (Or.inl ⟨by rfl, (by intro w' hSw; obtain ⟨x0, x1, x2, x3, x4, x5⟩ := unhide HU2 w' hSw; go_simp)⟩) (unhide HS0) ?_
          go_simp
          refine wpAnyH_take (i := 10) (oi := _) (v := .pointer (some ⟨rb, ro + fn * 5 + 3, none⟩)) rfl (by kernel_rfl) (by kernel_rfl) (by kernel_rfl) (fun _ _ _ h => h) (Or.inl ⟨by rfl, (by intro w' hSw; obtain ⟨x0, x1, x2, x3, x4, x5⟩ := unhide HU2 w' hSw; go_simp)⟩) (unhide HS0) ?_
          go_simp
          refine wpAnyH_take (i := 11) (oi := _) (v := .slice xa n xc) rfl (by kernel_rfl) (by kernel_rfl) (by kernel_rfl) (fun _ _ _ h => h) (Or.inl ⟨by rfl, (by intro w' hSw; obtain ⟨x0, x1, x2, x3, x4, x5⟩ := unhide HU2 w' hSw; go_simp)⟩) (unhide HS0) ?_
          go_simp
          refine wpAnyH_take (i := 12) (oi := _) (v := .int .i64 (n : Int)) rfl (by kernel_rfl) (by kernel_rfl) (by kernel_rfl) (fun _ _ _ h => h) (Or.inl ⟨by rfl, (by intro w' hSw; obtain ⟨x0, x1, x2, x3, x4, x5⟩ := unhide HU2 w' hSw; go_simp)⟩) (unhide HS0) ?_
          go_simp
          refine wpAnyH_take (i := 13) (oi := _) (v := .bool false) rfl (by kernel_rfl) (by kernel_rfl) (by kernel_rfl) (fun _ _ _ h => h) (Or.inl ⟨by rfl, (by intro w' hSw; obtain ⟨x0, x1, x2, x3, x4, x5⟩ := unhide HU2 w' hSw; go_simp)⟩) (unhide HS0) ?_
          go_simp
          refine wpAnyH_done (by kernel_rfl) ?_ _

          go_simp
          go_wp2_with fail
          obtain ⟨gko, hgko⟩ : ∃ g, g = gk := ⟨_, rfl⟩
          subst hgko
          go_loopg [9] n (fun gg t9 wv => ∃ (pc : Nat), Hid (pc + gg = n) ∧ t9 = .int .i64 (pc : Int) ∧ Hid (Below X.heap.size X wv))
          case atStart => exact ⟨0, by unfold Hid; omega, rfl, HS0⟩
          case round =>
            clear HS0
            obtain ⟨pc, hpc, rfl, hJ⟩ := hrel
            obtain ⟨x0, x1, x2, x3, x4, x5⟩ := unhide HU2 _ (unhide hJ)
            by_cases hpt : pc < n
            · have p0 : (0 : Int) ≤ (pc : Int) := by omega
              have p1 : (pc : Int) < (n : Int) := by omega
              have HPT := hide hpt
              obtain ⟨s, hs⟩ : ∃ s, l[pc]? = some s := ⟨_, List.getElem?_eq_getElem (by rw [unhide HLN]; exact hpt)⟩
              obtain ⟨sb, so, rfl, hsp⟩ := unhide HSP pc s hs
              have HSP2 := hide hsp
              have HSC := hide (unhide HCO _ s (spAt_of (unhide HL) hs))
              have HAS := hide (atP_at (f := F) (unhide HL) hs)
              clear hsp hs
              go_wp2_with fail
              clear x0 x1 x2 x3 x4 x5
              obtain ⟨gkp, hgkp⟩ : ∃ g, g = gk := ⟨_, rfl⟩
              subst hgkp
              go_loopg [10, 11] NN (fun gg t10 t11 wu => ∃ (i c : Nat), Hid (i + gg = NN) ∧ t10 = .int .i64 (c : Int) ∧ t11 = .int .i64 (i : Int) ∧ wu = wr ∧ Hid (c = (atN ((fn : Int), (pc : Int)) (ns.take i)).length))
              case atStart => exact ⟨0, 0, by unfold Hid; omega, rfl, rfl, rfl, by unfold Hid; rfl⟩
              case round =>
                obtain ⟨i, c, hi, rfl, rfl, rfl, hc⟩ := hrel
                by_cases hit : i < NN
                · have i0 : (0 : Int) ≤ (i : Int) := by omega
                  have i1 : (i : Int) < (NN : Int) := by omega
                  have HIT := hide hit
                  obtain ⟨m, hm⟩ : ∃ m, ns[i]? = some m := ⟨_, List.getElem?_eq_getElem (by rw [unhide hNN]; exact hit)⟩
                  obtain ⟨b, off, na', nc', rfl, hbl, ⟨n0, n1, n2, n3, n4, n5⟩, -⟩ := (unhide HN _ (unhide HWV _ (unhide hJ))).at hm
                  have hcb : c ≤ i := by rw [unhide hc]; exact Nat.le_trans (List.length_filter_le _ _) (by simp; omega)
                  have hcl : c < 9223372036854775807 := by have := unhide HNL; rw [unhide hNN] at this; omega
                  have HY : Hid ((atN ((fn : Int), (pc : Int)) (ns.take (i + 1))).length = c + (if m.fn = (fn : Int) ∧ m.pc = (pc : Int) then 1 else 0)) := by
                    unfold Hid
                    rw [unhide hc]
                    unfold atN
                    rw [List.take_add_one, hm, List.filter_append, List.length_append]
                    congr 1
                    by_cases h : m.fn = (fn : Int) ∧ m.pc = (pc : Int)
                    · rw [if_pos h]; simp [Nt.s, h.1, h.2]
                    · rw [if_neg h]
                      simp [Nt.s]
                      intro h1 h2
                      exact h ⟨h1, h2⟩
                  clear hc hm n0 n3 n4 n5
                  by_cases hA : m.fn = (fn : Int)
                  · by_cases hB : m.pc = (pc : Int)
                    · rw [if_pos ⟨hA, hB⟩] at HY
                      rw [hA] at n1
                      rw [hB] at n2
                      clear hA hB
                      go_wp2_with fail
                      go_roundg (gk - 1)
                      case measure => have := unhide hi; have := unhide HIT; omega
                      case rel => exact ⟨i + 1, c + 1, by have h1 := unhide hi; have h2 := unhide HIT; unfold Hid; omega, by go_num, by go_num, rfl, (unhide HY).symm⟩
                    · rw [if_neg (fun h => hB h.2)] at HY
                      rw [hA] at n1
                      have d1 : decide (m.pc = (pc : Int)) = false := decide_eq_false hB
                      clear hA
                      go_wp2_with fail
                      go_roundg (gk - 1)
                      case measure => have := unhide hi; have := unhide HIT; omega
                      case rel => exact ⟨i + 1, c, by have h1 := unhide hi; have h2 := unhide HIT; unfold Hid; omega, by go_num, by go_num, rfl, (unhide HY).symm⟩
                  · rw [if_neg (fun h => hA h.1)] at HY
                    have d1 : decide (m.fn = (fn : Int)) = false := decide_eq_false hA
                    go_wp2_with fail
                    go_roundg (gk - 1)
                    case measure => have := unhide hi; have := unhide HIT; omega
                    case rel => exact ⟨i + 1, c, by have h1 := unhide hi; have h2 := unhide HIT; unfold Hid; omega, by go_num, by go_num, rfl, (unhide HY).symm⟩
                · have hiN : NN = i := by have := unhide hi; omega
                  subst hiN
                  have hc2 := unhide hc
                  rw [List.take_of_length_le (by rw [unhide hNN]; exact Nat.le_refl _)] at hc2
                  have hsc := unhide HSC
                  rw [← hc2] at hsc
                  obtain ⟨s0, s1, s2, s3⟩ := s
                  simp only at hsc
                  subst hsc
                  have d2 := neqS0 ⟨(c : Int), s1, s2, s3⟩
                  have HATs : Hid (∀ (V : World), Below X.heap.size X V → Calls Tryz.prog 22 #[.agg #[.slice (some ⟨gb, go, none⟩) NF gc], .int .i64 (fn : Int), .int .i64 (pc : Int)] V fun e V' => e = .returned (spV ⟨(c : Int), s1, s2, s3⟩) ∧ Hid (Below X.heap.size X V')) := fun V hV => (unhide HAT V fn pc hV).mono (fun e V' ⟨h1, h2⟩ => ⟨by rw [h1, unhide HAS], h2⟩)
                  unfold spV at d2 HATs
                  have HSQ : Hid (∀ V, Below X.heap.size X V → sb < V.heap.size ∧ V.cell? ⟨sb, so + pc * 4, none⟩ = some (.int .i64 (c : Int)) ∧ V.cell? ⟨sb, so + pc * 4 + 1, none⟩ = some (.int .u16 s1) ∧ V.cell? ⟨sb, so + pc * 4 + 2, none⟩ = some (.int .u16 s2) ∧ V.cell? ⟨sb, so + pc * 4 + 3, none⟩ = some (.int .i64 s3)) := unhide HSP2
                  have HS1 := hide (unhide HDR _ (unhide hJ))
                  clear hc hc2 HSC HAS HSP2
                  go_wp2_with fail
                  refine wp_region_held_drew (S := (fun V => Below X.heap.size X V)) (by kernel_rfl) (unhide HS1) (fun hHeld => ?_)
                  clear hHeld
                  refine wpAnyH_take (i := 0) (oi := _) (v := .pointer (some ⟨xb, 0, none⟩)) rfl (by kernel_rfl) (by kernel_rfl) (by kernel_rfl) (fun _ _ _ h => h) (Or.inl ⟨by rfl, (by intro w' hSw; obtain ⟨x0, x1, x2, x3, x4, x5⟩ := unhide HU2 w' hSw; obtain ⟨y0, y1, y2, y3, y4⟩ := unhide HSQ w' hSw; go_simp)⟩) (unhide HS1) ?_
                  go_simp
                  refine wpAnyH_take (i := 1) (oi := _) (v := .slice (some ⟨gb, go, none⟩) NF gc) rfl (by kernel_rfl) (by kernel_rfl) (by kernel_rfl) (fun _ _ _ h => h) (Or.inl ⟨by rfl, (by intro w' hSw; obtain ⟨x0, x1, x2, x3, x4, x5⟩ := unhide HU2 w' hSw; obtain ⟨y0, y1, y2, y3, y4⟩ := unhide HSQ w' hSw; go_simp)⟩) (unhide HS1) ?_
                  go_simp
                  refine wpAnyH_take (i := 2) (oi := _) (v := .int .i64 (fn : Int)) rfl (by kernel_rfl) (by kernel_rfl) (by kernel_rfl) (fun _ _ _ h => h) (Or.inl ⟨by rfl, (by intro w' hSw; obtain ⟨x0, x1, x2, x3, x4, x5⟩ := unhide HU2 w' hSw; obtain ⟨y0, y1, y2, y3, y4⟩ := unhide HSQ w' hSw; go_simp)⟩) (unhide HS1) ?_
                  go_simp
                  refine wpAnyH_take (i := 3) (oi := _) (v := .pointer (some ⟨gb, go + fn, none⟩)) rfl (by kernel_rfl) (by kernel_rfl) (by kernel_rfl) (fun _ _ _ h => h) (Or.inl ⟨by rfl, (by intro w' hSw; obtain ⟨x0, x1, x2, x3, x4, x5⟩ := unhide HU2 w' hSw; obtain ⟨y0, y1, y2, y3, y4⟩ := unhide HSQ w' hSw; go_simp)⟩) (unhide HS1) ?_
                  go_simp
                  refine wpAnyH_take (i := 4) (oi := _) (v := .slice (some ⟨sb, so, none⟩) n lc) rfl (by kernel_rfl) (by kernel_rfl) (by kernel_rfl) (fun _ _ _ h => h) (Or.inl ⟨by rfl, (by intro w' hSw; obtain ⟨x0, x1, x2, x3, x4, x5⟩ := unhide HU2 w' hSw; obtain ⟨y0, y1, y2, y3, y4⟩ := unhide HSQ w' hSw; go_simp)⟩) (unhide HS1) ?_
                  go_simp
                  refine wpAnyH_take (i := 5) (oi := _) (v := .int .i64 (pc : Int)) rfl (by kernel_rfl) (by kernel_rfl) (by kernel_rfl) (fun _ _ _ h => h) (Or.inl ⟨by rfl, (by intro w' hSw; obtain ⟨x0, x1, x2, x3, x4, x5⟩ := unhide HU2 w' hSw; obtain ⟨y0, y1, y2, y3, y4⟩ := unhide HSQ w' hSw; go_simp)⟩) (unhide HS1) ?_
                  go_simp
                  refine wpAnyH_take (i := 6) (oi := _) (v := .pointer (some ⟨sb, so + pc * 4, none⟩)) rfl (by kernel_rfl) (by kernel_rfl) (by kernel_rfl) (fun _ _ _ h => h) (Or.inl ⟨by rfl, (by intro w' hSw; obtain ⟨x0, x1, x2, x3, x4, x5⟩ := unhide HU2 w' hSw; obtain ⟨y0, y1, y2, y3, y4⟩ := unhide HSQ w' hSw; go_simp)⟩) (unhide HS1) ?_
                  go_simp
                  refine wpAnyH_take (i := 7) (oi := _) (v := .pointer (some ⟨sb, so + pc * 4, none⟩)) rfl (by kernel_rfl) (by kernel_rfl) (by kernel_rfl) (fun _ _ _ h => h) (Or.inl ⟨by rfl, (by intro w' hSw; obtain ⟨x0, x1, x2, x3, x4, x5⟩ := unhide HU2 w' hSw; obtain ⟨y0, y1, y2, y3, y4⟩ := unhide HSQ w' hSw; go_simp)⟩) (unhide HS1) ?_
                  go_simp
                  refine wpAnyH_take (i := 8) (oi := _) (v := .int .i64 (c : Int)) rfl (by kernel_rfl) (by kernel_rfl) (by kernel_rfl) (fun _ _ _ h => h) (Or.inl ⟨by rfl, (by intro w' hSw; obtain ⟨x0, x1, x2, x3, x4, x5⟩ := unhide HU2 w' hSw; obtain ⟨y0, y1, y2, y3, y4⟩ := unhide HSQ w' hSw; go_simp)⟩) (unhide HS1) ?_
                  go_simp
                  refine wpAnyH_take (i := 9) (oi := _) (v := .int .i64 (c : Int)) rfl (by kernel_rfl) (by kernel_rfl) (by kernel_rfl) (fun _ _ _ h => h) (Or.inl ⟨by rfl, (by intro w' hSw; obtain ⟨x0, x1, x2, x3, x4, x5⟩ := unhide HU2 w' hSw; obtain ⟨y0, y1, y2, y3, y4⟩ := unhide HSQ w' hSw; go_simp)⟩) (unhide HS1) ?_
                  go_simp
                  refine wpAnyH_take (i := 10) (oi := _) (v := .bool false) rfl (by kernel_rfl) (by kernel_rfl) (by kernel_rfl) (fun _ _ _ h => h) (Or.inl ⟨by rfl, (by intro w' hSw; obtain ⟨x0, x1, x2, x3, x4, x5⟩ := unhide HU2 w' hSw; obtain ⟨y0, y1, y2, y3, y4⟩ := unhide HSQ w' hSw; go_simp)⟩) (unhide HS1) ?_
                  go_simp
                  refine wpAnyH_take (i := 11) (oi := _) (v := .bool false) rfl (by kernel_rfl) (by kernel_rfl) (by kernel_rfl) (fun _ _ _ h => h) (Or.inl ⟨by rfl, (by intro w' hSw; obtain ⟨x0, x1, x2, x3, x4, x5⟩ := unhide HU2 w' hSw; obtain ⟨y0, y1, y2, y3, y4⟩ := unhide HSQ w' hSw; go_simp)⟩) (unhide HS1) ?_
                  go_simp
                  refine wpAnyH_take (i := 12) (oi := _) (v := .agg #[.slice (some ⟨gb, go, none⟩) NF gc]) rfl (by kernel_rfl) (by kernel_rfl) (by kernel_rfl) (fun _ _ _ h => h) (Or.inl ⟨by rfl, (by intro w' hSw; obtain ⟨x0, x1, x2, x3, x4, x5⟩ := unhide HU2 w' hSw; obtain ⟨y0, y1, y2, y3, y4⟩ := unhide HSQ w' hSw; go_simp)⟩) (unhide HS1) ?_
                  go_simp
                  refine wpAnyH_take (i := 13) (oi := _) (v := .int .i64 (fn : Int)) rfl (by kernel_rfl) (by kernel_rfl) (by kernel_rfl) (fun _ _ _ h => h) (Or.inl ⟨by rfl, (by intro w' hSw; obtain ⟨x0, x1, x2, x3, x4, x5⟩ := unhide HU2 w' hSw; obtain ⟨y0, y1, y2, y3, y4⟩ := unhide HSQ w' hSw; go_simp)⟩) (unhide HS1) ?_
                  go_simp
                  refine wpAnyH_take (i := 14) (oi := _) (v := .int .i64 (pc : Int)) rfl (by kernel_rfl) (by kernel_rfl) (by kernel_rfl) (fun _ _ _ h => h) (Or.inl ⟨by rfl, (by intro w' hSw; obtain ⟨x0, x1, x2, x3, x4, x5⟩ := unhide HU2 w' hSw; obtain ⟨y0, y1, y2, y3, y4⟩ := unhide HSQ w' hSw; go_simp)⟩) (unhide HS1) ?_
                  go_simp
                  refine wpAnyH_take (i := 16) (oi := _) (v := .pointer (some ⟨xb, 0, none⟩)) rfl (by kernel_rfl) (by kernel_rfl) (by kernel_rfl) (fun _ _ _ h => h) (Or.inl ⟨by rfl, (by intro w' hSw; obtain ⟨x0, x1, x2, x3, x4, x5⟩ := unhide HU2 w' hSw; obtain ⟨y0, y1, y2, y3, y4⟩ := unhide HSQ w' hSw; go_simp)⟩) (unhide HS1) ?_
                  go_simp
                  refine wpAnyH_take (i := 17) (oi := _) (v := .slice (some ⟨gb, go, none⟩) NF gc) rfl (by kernel_rfl) (by kernel_rfl) (by kernel_rfl) (fun _ _ _ h => h) (Or.inl ⟨by rfl, (by intro w' hSw; obtain ⟨x0, x1, x2, x3, x4, x5⟩ := unhide HU2 w' hSw; obtain ⟨y0, y1, y2, y3, y4⟩ := unhide HSQ w' hSw; go_simp)⟩) (unhide HS1) ?_
                  go_simp
                  refine wpAnyH_take (i := 18) (oi := _) (v := .int .i64 (fn : Int)) rfl (by kernel_rfl) (by kernel_rfl) (by kernel_rfl) (fun _ _ _ h => h) (Or.inl ⟨by rfl, (by intro w' hSw; obtain ⟨x0, x1, x2, x3, x4, x5⟩ := unhide HU2 w' hSw; obtain ⟨y0, y1, y2, y3, y4⟩ := unhide HSQ w' hSw; go_simp)⟩) (unhide HS1) ?_
                  go_simp
                  refine wpAnyH_take (i := 19) (oi := _) (v := .pointer (some ⟨gb, go + fn, none⟩)) rfl (by kernel_rfl) (by kernel_rfl) (by kernel_rfl) (fun _ _ _ h => h) (Or.inl ⟨by rfl, (by intro w' hSw; obtain ⟨x0, x1, x2, x3, x4, x5⟩ := unhide HU2 w' hSw; obtain ⟨y0, y1, y2, y3, y4⟩ := unhide HSQ w' hSw; go_simp)⟩) (unhide HS1) ?_
                  go_simp
                  refine wpAnyH_take (i := 20) (oi := _) (v := .slice (some ⟨sb, so, none⟩) n lc) rfl (by kernel_rfl) (by kernel_rfl) (by kernel_rfl) (fun _ _ _ h => h) (Or.inl ⟨by rfl, (by intro w' hSw; obtain ⟨x0, x1, x2, x3, x4, x5⟩ := unhide HU2 w' hSw; obtain ⟨y0, y1, y2, y3, y4⟩ := unhide HSQ w' hSw; go_simp)⟩) (unhide HS1) ?_
                  go_simp
                  refine wpAnyH_take (i := 21) (oi := _) (v := .int .i64 (pc : Int)) rfl (by kernel_rfl) (by kernel_rfl) (by kernel_rfl) (fun _ _ _ h => h) (Or.inl ⟨by rfl, (by intro w' hSw; obtain ⟨x0, x1, x2, x3, x4, x5⟩ := unhide HU2 w' hSw; obtain ⟨y0, y1, y2, y3, y4⟩ := unhide HSQ w' hSw; go_simp)⟩) (unhide HS1) ?_
                  go_simp
                  refine wpAnyH_take (i := 22) (oi := _) (v := .pointer (some ⟨sb, so + pc * 4, none⟩)) rfl (by kernel_rfl) (by kernel_rfl) (by kernel_rfl) (fun _ _ _ h => h) (Or.inl ⟨by rfl, (by intro w' hSw; obtain ⟨x0, x1, x2, x3, x4, x5⟩ := unhide HU2 w' hSw; obtain ⟨y0, y1, y2, y3, y4⟩ := unhide HSQ w' hSw; go_simp)⟩) (unhide HS1) ?_
                  go_simp
                  refine wpAnyH_take (i := 23) (oi := _) (v := .agg #[.int .i64 (c : Int), .int .u16 s1, .int .u16 s2, .int .i64 s3]) rfl (by kernel_rfl) (by kernel_rfl) (by kernel_rfl) (fun _ _ _ h => h) (Or.inl ⟨by rfl, (by intro w' hSw; obtain ⟨x0, x1, x2, x3, x4, x5⟩ := unhide HU2 w' hSw; obtain ⟨y0, y1, y2, y3, y4⟩ := unhide HSQ w' hSw; go_simp)⟩) (unhide HS1) ?_
                  go_simp
                  refine wpAnyH_ready (rs := [15]) (by kernel_rfl) (by simp) ?_
                  refine AllReadyH.cons (o := _) rfl (fun K hK => ?_) AllReadyH.nil
                  go_simp
                  refine (unhide HATs _ (unhide HS1)).mono ?_
                  rintro e V1 ⟨rfl, HBV1⟩
                  go_simp
                  refine hK.out _ _ (unhide HBV1) (fun _ => ?_)
                  clear hK K
                  go_simp
                  refine wpAnyH_take (i := 24) (oi := _) (v := .bool false) rfl (by kernel_rfl) (by kernel_rfl) (by kernel_rfl) (fun _ _ _ h => h) (Or.inl ⟨by rfl, (by intro w' hSw; obtain ⟨x0, x1, x2, x3, x4, x5⟩ := unhide HU2 w' hSw; obtain ⟨y0, y1, y2, y3, y4⟩ := unhide HSQ w' hSw; go_simp)⟩) (unhide HBV1) ?_
                  go_simp
                  refine wpAnyH_take (i := 25) (oi := _) (v := .bool false) rfl (by kernel_rfl) (by kernel_rfl) (by kernel_rfl) (fun _ _ _ h => h) (Or.inl ⟨by rfl, (by intro w' hSw; obtain ⟨x0, x1, x2, x3, x4, x5⟩ := unhide HU2 w' hSw; obtain ⟨y0, y1, y2, y3, y4⟩ := unhide HSQ w' hSw; go_simp)⟩) (unhide HBV1) ?_
                  go_simp
                  refine wpAnyH_done (by kernel_rfl) ?_ _

                  go_simp
                  go_wp2_with fail
                  go_roundg (gkp - 1)
                  case measure => have := unhide hpc; have := unhide HPT; omega
                  case rel => exact ⟨pc + 1, by have h1 := unhide hpc; have h2 := unhide HPT; unfold Hid; omega, by go_num, HBV1⟩
            · go_wp2_with fail
              go_roundg (gko - 1)
              case measure => have := unhide hfn; have := unhide HFT; omega
              case rel => exact ⟨fn + 1, by have h1 := unhide hfn; have h2 := unhide HFT; unfold Hid; omega, by go_num, hJ⟩
        · go_wp2_with fail
          refine (unhide HSH _ (unhide hI)).mono ?_
          rintro e VZ ⟨rfl, HBVZ⟩
          go_wp2_with fail
          go_ret
          exact ⟨rfl, unhide HWV _ (unhide HBVZ)⟩
end Go.Proofs.YtclcebdcdbcpjaaGreat
namespace Go.Proofs.YtclcebdcdbcpjaaGreat
open Go.RowKit
set_option linter.unusedVariables false
set_option linter.unusedSimpArgs false
/-- Three books at once. -/
structure C3 (B n1 n2 : Nat) (W0 : World) (pa pb pc : Nat) (fa fb fc : List (List Sp)) (wr : World) : Prop where
  a : BkM (fun k => B ≤ k ∧ k < n1) wr pa fa
  b : BkM (fun k => n1 ≤ k ∧ k < n2) wr pb fb
  c : BkM (fun k => n2 ≤ k) wr pc fc
  oa : OkF fa
  ob : OkF fb
  oc : OkF fc
  bl : Below B W0 wr
  s1 : B ≤ n1
  s2 : n1 ≤ n2
section
variable {B n1 n2 : Nat} {W0 wr w' : World} {pa pb pc : Nat} {fa fb fc g : List (List Sp)}
theorem C3.on (h : C3 B n1 n2 W0 pa pb pc fa fb fc wr) (hB : B ≤ W0.heap.size) (k : Below wr.heap.size wr w') : C3 B n1 n2 W0 pa pb pc fa fb fc w' :=
  ⟨h.a.below k, h.b.below k, h.c.below k, h.oa, h.ob, h.oc, h.bl.trans (k.mono (Nat.le_trans hB h.bl.size)), h.s1, h.s2⟩
theorem C3.ta (h : C3 B n1 n2 W0 pa pb pc fa fb fc wr) (hB : B ≤ W0.heap.size) (h1 : BkM (fun k => B ≤ k ∧ k < n1) w' pa g) (hg : OkF g) (k : Fr (fun k => B ≤ k ∧ k < n1) wr w') : C3 B n1 n2 W0 pa pb pc g fb fc w' :=
  ⟨h1, h.b.fr k (fun b _ e q => by omega), h.c.fr k (fun b _ e q => by have := h.s2; omega), hg, h.ob, h.oc, h.bl.trans (k.below (Nat.le_trans hB h.bl.size) (fun b hb e => by omega)), h.s1, h.s2⟩
theorem C3.tb (h : C3 B n1 n2 W0 pa pb pc fa fb fc wr) (hB : B ≤ W0.heap.size) (h1 : BkM (fun k => n1 ≤ k ∧ k < n2) w' pb g) (hg : OkF g) (k : Fr (fun k => n1 ≤ k ∧ k < n2) wr w') : C3 B n1 n2 W0 pa pb pc fa g fc w' :=
  ⟨h.a.fr k (fun b _ e q => by omega), h1, h.c.fr k (fun b _ e q => by omega), h.oa, hg, h.oc, h.bl.trans (k.below (Nat.le_trans hB h.bl.size) (fun b hb e => by have := h.s1; omega)), h.s1, h.s2⟩
theorem C3.tc (h : C3 B n1 n2 W0 pa pb pc fa fb fc wr) (hB : B ≤ W0.heap.size) (h1 : BkM (fun k => n2 ≤ k) w' pc g) (hg : OkF g) (k : Fr (fun k => n2 ≤ k) wr w') : C3 B n1 n2 W0 pa pb pc fa fb g w' :=
  ⟨h.a.fr k (fun b _ e q => by have := h.s2; omega), h.b.fr k (fun b _ e q => by omega), h1, h.oa, h.ob, hg, h.bl.trans (k.below (Nat.le_trans hB h.bl.size) (fun b hb e => by have := h.s1; have := h.s2; omega)), h.s1, h.s2⟩
end
/-- Does a note go to the other book? -/
def odN (n : Nt) : Bool := decide (pck n.on 2 = 1)
theorem rev_at {ns : List Nt} {r : Nat} {n : Nt} (hr : r < ns.length) (h : ns[ns.length - 1 - r]? = some n) : ns.reverse[r]? = some n := by
  rw [List.getElem?_reverse hr]; exact h
theorem flt_step {l : List Nt} {r : Nat} {n : Nt} (h : l[r]? = some n) (p : Nt → Bool) (f : List (List Sp)) : nts f ((l.take (r + 1)).filter p) = if p n = true then ntP (nts f ((l.take r).filter p)) n else nts f ((l.take r).filter p) := by
  rw [List.take_add_one, h, List.filter_append]
  by_cases hp : p n = true
  · rw [if_pos hp]; simp [hp, nts]
  · rw [if_neg hp]; simp [hp]
/-- Where a note's values lie: ahead of what is made later. -/
theorem NtV.far {w wr : World} {na : Option Addr} {m nc : Nat} {ns : List Nt} (h : NtV w (.slice na m nc) ns) (hb : Below w.heap.size w wr) {i : Nat} {n : Nt} (hn : ns[i]? = some n) :
    ∃ b off la lc, na = some ⟨b, off, none⟩ ∧ b < wr.heap.size ∧ (wr.cell? ⟨b, off + i * 6, none⟩ = some (.int .i64 n.on) ∧ wr.cell? ⟨b, off + i * 6 + 1, none⟩ = some (.int .i64 n.fn) ∧ wr.cell? ⟨b, off + i * 6 + 2, none⟩ = some (.int .i64 n.pc) ∧ wr.cell? ⟨b, off + i * 6 + 3, none⟩ = some (.slice la n.ar.length lc) ∧ wr.cell? ⟨b, off + i * 6 + 4, none⟩ = some (.int .i64 n.k) ∧ wr.cell? ⟨b, off + i * 6 + 5, none⟩ = some (.bool n.ak)) ∧ Rx wr 2 (.slice la n.ar.length lc) n.ar.length (flt enI n.ar) ∧ ∀ Z : Nat → Prop, (∀ k, Z k → w.heap.size ≤ k) → 0 < n.ar.length → ∀ b, (Value.slice la n.ar.length lc).ownBlock = some b → ¬ Z b := by
  obtain ⟨b, off, la, lc, rfl, hbl, ⟨n0, n1, n2, n3, n4, n5⟩, hrx⟩ := h.at hn
  refine ⟨b, off, la, lc, rfl, Nat.lt_of_lt_of_le hbl hb.size, ⟨(hb.cell (p := ⟨b, off + i * 6, none⟩) hbl).trans n0, (hb.cell (p := ⟨b, off + i * 6 + 1, none⟩) hbl).trans n1, (hb.cell (p := ⟨b, off + i * 6 + 2, none⟩) hbl).trans n2, (hb.cell (p := ⟨b, off + i * 6 + 3, none⟩) hbl).trans n3, (hb.cell (p := ⟨b, off + i * 6 + 4, none⟩) hbl).trans n4, (hb.cell (p := ⟨b, off + i * 6 + 5, none⟩) hbl).trans n5⟩, hrx.below hb (Nat.le_refl _), fun Z hZ h0 b2 hb2 hz => ?_⟩
  obtain ⟨_, a, c, e1, _, _, e2⟩ := hrx
  cases e1
  obtain ⟨b3, o3, e3, hlt3, _⟩ := e2 h0
  subst e3
  have hbb : b3 = b2 := Option.some.inj hb2
  have := hZ b2 hz
  omega
end Go.Proofs.YtclcebdcdbcpjaaGreat
namespace Go.Proofs.YtclcebdcdbcpjaaGreat
open Go.RowKit
set_option linter.unusedVariables false
set_option linter.unusedSimpArgs false
theorem Bd.lens {f : List (List Sp)} {sh : List Nat} (h : f.map List.length = sh) (hO : OkF f) (hL : sh.length ≤ 5864062014634) (hs : sh.sum ≤ 5864062014634) : Bd f := by
  refine ⟨hO, by rw [← List.length_map (f := List.length), h]; exact hL, fun l hl => ?_⟩
  have : l.length ∈ sh := by rw [← h]; exact List.mem_map_of_mem hl
  exact Nat.le_trans (le_sum this) hs
set_option maxRecDepth 100000 in
set_option maxHeartbeats 3200000 in
theorem cutLaw {w : World} {pv av nv : Value} {sh : List Nat} {F : List (List Sp)} {ns : List Nt} (hp : PgL w pv sh) (ha : PfV w av F) (hO : OkF F) (hn : NtV w nv ns) (hok : ∀ n ∈ ns, OkN n) (hnl : ns.length ≤ 5864062014634) (hL : sh.length ≤ 5864062014634) (hsum : sh.sum ≤ 5864062014634) :
    Calls Tryz.prog 5 #[pv, .agg #[av], nv] w fun e w' => e = .returned (.bool true) ∧ Below w.heap.size w w' := by
  have HP := hide (fun W (hW : Below w.heap.size w W) => hp.below hW (Nat.le_refl _))
  have HN := hide (fun W (hW : Below w.heap.size w W) => hn.below hW (Nat.le_refl _))
  have HA := hide (fun W (hW : Below w.heap.size w W) => ha.below hW (Nat.le_refl _))
  have HOK := hide (fun (i : Nat) (n : Nt) (h : ns[i]? = some n) => hok n (List.mem_of_getElem? h))
  have HKK : Hid (∀ n ∈ ns, I64 n.k) := fun n h => (hok n h).2.2.1
  have HOO := hide hO
  have HCT := hide (fun W (hW : Below w.heap.size w W) => counts_any (unhide HP W hW) (unhide HN W hW) hok hnl hL hsum)
  have HNW := hide (fun W (hW : Below w.heap.size w W) => new_any (unhide HP W hW) (unhide HA W hW) hO hL hsum)
  have HNZ := hide (fun W (hW : Below w.heap.size w W) => new_any (f := []) (unhide HP W hW) (PfV.nil _) (fun l hl => by simp at hl) hL hsum)
  have HBD : Hid (∀ (f : List (List Sp)), f.map List.length = sh → OkF f → Bd f) := fun f h1 h2 => Bd.lens h1 h2 hL hsum
  have HLL := hide hL
  have HSM := hide hsum
  have HNL := hide hnl
  obtain ⟨cv, fa, xs, rfl, hx1, hx2, ⟨ca, cn, cc, rfl⟩, hx4⟩ := hp
  obtain ⟨ra, rc, rfl, hr1, hr2⟩ := hx2.shape
  obtain ⟨na, nc, rfl, hn1, hn2⟩ := hn.shape
  have HNF := hide (fun W (hW : Below w.heap.size w W) (i : Nat) (n : Nt) (h : ns[i]? = some n) => hn.far hW h)
  obtain ⟨aa, ac, rfl, ha1, ha2⟩ := ha.shape
  obtain ⟨NF, hNF⟩ : ∃ NF, Hid (xs.length = NF) := ⟨_, hide rfl⟩
  obtain ⟨NN, hNN⟩ : ∃ NN, Hid (ns.length = NN) := ⟨_, hide rfl⟩
  obtain ⟨AN, hAN⟩ : ∃ AN, Hid (F.length = AN) := ⟨_, hide rfl⟩
  rw [unhide hNF] at HP HCT HNW HNZ hr1 ⊢
  rw [unhide hNN] at HN HCT hn1 ⊢
  rw [unhide hAN] at HA HNW ha1 ⊢
  unfold maxLen at hr2 hn2 ha2
  obtain ⟨f0, hf0⟩ : ∃ f0, Hid (newP sh F = f0) := ⟨_, hide rfl⟩
  obtain ⟨g0, hg0⟩ : ∃ g0, Hid (newP sh [] = g0) := ⟨_, hide rfl⟩
  have HOF : Hid (OkF f0 ∧ OkF g0) := by unfold Hid; rw [← unhide hf0, ← unhide hg0]; exact ⟨newP_ok hO, newP_ok (fun l hl => by simp at hl)⟩
  have HLN : Hid (f0.map List.length = sh ∧ g0.map List.length = sh) := by unfold Hid; rw [← unhide hf0, ← unhide hg0]; exact ⟨newP_lens _ _, newP_lens _ _⟩
  have HCU : Hid (cntB F = true → nts f0 ns = mrg (nts f0 (ns.reverse.filter (fun n => !odN n))) (nts g0 (ns.reverse.filter odN))) := fun hc => by rw [← unhide hf0, ← unhide hg0]; exact nts_cut hO hc (unhide HKK) odN
  rw [unhide hf0] at HNW
  rw [unhide hg0] at HNZ
  clear hx1 hx2 hx4 hn ha hok hnl hL hsum hO
  obtain ⟨q, hq⟩ : ∃ q, Hid (w.heap.size = q) := ⟨_, hide rfl⟩
  obtain ⟨W0, hW0⟩ : ∃ W, Hid ((w.alloc (.cells #[.slice ca cn cc, .slice ra NF rc] 41)).alloc (.cells #[.slice aa AN ac] 25) = W) := ⟨_, hide rfl⟩
  have HB0 : Hid (Below w.heap.size w W0) := by unfold Hid; rw [← unhide hW0]; exact ((Below.refl _ w).alloc (Nat.le_refl _) _).alloc (by rw [World.size_alloc]; omega) _
  have HK0 : Hid (W0.heap[q]? = some (.cells #[.slice ca cn cc, .slice ra NF rc] 41) ∧ W0.heap[q + 1]? = some (.cells #[.slice aa AN ac] 25)) := by
    unfold Hid
    rw [← unhide hW0, ← unhide hq]
    have s1 : (w.alloc (.cells #[.slice ca cn cc, .slice ra NF rc] 41)).heap.size = w.heap.size + 1 := World.size_alloc _ _
    exact ⟨by rw [Below.heap_alloc _ _ _ (by omega)]; exact heap_alloc_new w _, by rw [← s1]; exact heap_alloc_new _ _⟩
  have HQ : Hid (∀ V, Below W0.heap.size W0 V → V.cell? ⟨q, 0, none⟩ = some (.slice ca cn cc) ∧ V.cell? ⟨q, 1, none⟩ = some (.slice ra NF rc) ∧ V.cell? ⟨q + 1, 0, none⟩ = some (.slice aa AN ac)) := fun V hV => by
    obtain ⟨k0, k1⟩ := unhide HK0
    have l0 := (blk_cells k0).2.2
    have l1 := (blk_cells k1).2.2
    exact ⟨(blk_cells ((hV.block q l0).trans k0)).1 0, (blk_cells ((hV.block q l0).trans k0)).1 1, (blk_cells ((hV.block (q + 1) l1).trans k1)).1 0⟩
  have HWV : Hid (∀ V, Below W0.heap.size W0 V → Below w.heap.size w V) := fun V hV => (unhide HB0).trans (hV.mono (unhide HB0).size)
  obtain ⟨x0, x1, x2⟩ := unhide HQ W0 (Below.refl _ _)
  go_enter Tryz.func5, Tryz.ntmps5
  go_wp2_with fail
  rw [unhide hq]
  rw [unhide hW0]
  clear hW0
  go_wp2_with fail
  refine (unhide HCT W0 (unhide HB0)).mono ?_
  rintro e w1 ⟨rfl, hb1⟩
  have HB1 := hide hb1
  clear x0 x1 x2 hb1 HCT
  obtain ⟨x0, x1, x2⟩ := unhide HQ w1 (unhide HB1)
  go_wp2_with fail
  refine (counted_any (unhide HA w1 (unhide HWV _ (unhide HB1)))).mono ?_
  rintro e w2 ⟨rfl, hb2⟩
  have HB2 : Hid (Below W0.heap.size W0 w2) := (unhide HB1).trans (hb2.mono (unhide HB1).size)
  clear x0 x1 x2 hb2
  cases hcc : cntB F with
  | false =>
    go_wp2_with fail
    refine (shown_any w2).mono ?_
    rintro e w3 ⟨rfl, hb3⟩
    go_wp2_with fail
    go_ret
    exact ⟨rfl, unhide HWV _ ((unhide HB2).trans (hb3.mono (unhide HB2).size))⟩
  | true =>
    replace HCU := hide (unhide HCU hcc)
    clear hcc
    obtain ⟨x0, x1, x2⟩ := unhide HQ w2 (unhide HB2)
    go_wp2_with fail
    refine (unhide HNW w2 (unhide HWV _ (unhide HB2))).mono ?_
    rintro e w3 ⟨pa', rfl, hka, hb3⟩
    have HB3 : Hid (Below W0.heap.size W0 w3) := (unhide HB2).trans (hb3.mono (unhide HB2).size)
    clear x0 x1 x2
    obtain ⟨x0, x1, x2⟩ := unhide HQ w3 (unhide HB3)
    go_wp2_with fail
    refine (unhide HNW w3 (unhide HWV _ (unhide HB3))).mono ?_
    rintro e w4 ⟨pb', rfl, hkb, hb4⟩
    have HB4 : Hid (Below W0.heap.size W0 w4) := (unhide HB3).trans (hb4.mono (unhide HB3).size)
    clear x0 x1 x2
    obtain ⟨x0, x1, x2⟩ := unhide HQ w4 (unhide HB4)
    go_wp2_with fail
    refine (unhide HNZ w4 (unhide HWV _ (unhide HB4))).mono ?_
    rintro e w5 ⟨pc', rfl, hkc, hb5⟩
    have HB5 : Hid (Below W0.heap.size W0 w5) := (unhide HB4).trans (hb5.mono (unhide HB4).size)
    clear x0 x1 x2
    obtain ⟨n1, hn1'⟩ : ∃ n1, Hid (w3.heap.size = n1) := ⟨_, hide rfl⟩
    obtain ⟨n2, hn2'⟩ : ∃ n2, Hid (w4.heap.size = n2) := ⟨_, hide rfl⟩
    have HC0 : Hid (C3 W0.heap.size n1 n2 W0 pa' pb' pc' (nts f0 (ns.take 0)) (f0) (g0) w5) := by
      have z2 := (unhide HB2).size
      have z3 := hb3.size
      have z4 := hb4.size
      have e1 := unhide hn1'
      have e2 := unhide hn2'
      refine ⟨((hka.mono (fun k hk hz => ?_)).below hb4).below hb5, (hkb.mono (fun k hk hz => ?_)).below hb5, hkc.mono (fun k hk hz => ?_), (unhide HOF).1, (unhide HOF).1, (unhide HOF).2, unhide HB5, by omega, by omega⟩ <;> (first | omega | exact ⟨by omega, by omega⟩)
    clear hka hkb hkc hb3 hb4 hb5 hn1' hn2'
    go_wp2_with fail
    go_loopg [10] NN (fun gg t10 wr => ∃ (i : Nat), Hid (i + gg = NN) ∧ t10 = .int .i64 (i : Int) ∧ Hid (C3 W0.heap.size n1 n2 W0 pa' pb' pc' (nts f0 (ns.take i)) (f0) (g0) wr))
    case atStart => exact ⟨0, by unfold Hid; omega, rfl, HC0⟩
    case round =>
      clear HC0
      obtain ⟨i, hi, rfl, hI⟩ := hrel
      by_cases hlt : i < NN
      · have i0 : (0 : Int) ≤ (i : Int) := by omega
        have i1 : (i : Int) < (NN : Int) := by omega
        have HIT := hide hlt
        obtain ⟨n, hn⟩ : ∃ n, ns[i]? = some n := ⟨_, List.getElem?_eq_getElem (by rw [unhide hNN]; exact hlt)⟩
        obtain ⟨b, off, la, lc, rfl, hbl, ⟨m0, m1, m2, m3, m4, m5⟩, hrx, hfar⟩ := unhide HNF wr (unhide HWV _ (unhide hI).bl) i n hn
        have HTL := hide (tellN_any (Z := (fun k => W0.heap.size ≤ k ∧ k < n1)) (unhide hI).a (unhide hI).oa n.on n.fn n.pc (unhide HOK _ n hn).2.1 hrx (unhide HOK _ n hn).2.2.2 n.k (unhide HOK _ n hn).2.2.1 n.ak (hfar (fun k => W0.heap.size ≤ k ∧ k < n1) (fun k hk => by have h1 := (unhide hI).s1; have h2 := (unhide hI).s2; have h3 := (unhide HB0).size; omega)))
        have HST : Hid (∀ w', BkM (fun k => W0.heap.size ≤ k ∧ k < n1) w' pa' (noteP (nts f0 (ns.take i)) (n.fn, n.pc) n.ar n.k) → Fr (fun k => W0.heap.size ≤ k ∧ k < n1) wr w' → C3 W0.heap.size n1 n2 W0 pa' pb' pc' (nts f0 (ns.take (i + 1))) (f0) (g0) w') := fun w' h1 h2 => by rw [nts_step hn]; exact (unhide hI).ta (Nat.le_refl _) h1 (ntP_ok (unhide hI).oa (unhide HOK _ n hn).2.2.1) h2
        obtain ⟨AL, hAL⟩ : ∃ AL, Hid (n.ar.length = AL) := ⟨_, hide rfl⟩
        rw [unhide hAL] at m3 HTL
        clear hrx hfar hI hn
        go_wp2_with fail
        refine (unhide HTL).mono ?_
        rintro e w6 ⟨rfl, h1, h2⟩
        have HT2 := hide (unhide HST w6 h1 h2)
        clear h1 h2 m0 m1 m2 m3 m4 m5
        go_wp2_with fail
        go_roundg (gk - 1)
        case measure => have := unhide hi; have := unhide HIT; omega
        case rel => exact ⟨i + 1, by have h1 := unhide hi; have h2 := unhide HIT; unfold Hid; omega, by go_num, HT2⟩
      · have hiN : NN = i := by have := unhide hi; omega
        subst hiN
        have hT := unhide hI
        rw [List.take_of_length_le (by rw [unhide hNN]; exact Nat.le_refl _)] at hT
        have HT := hide hT
        clear hT hI
        go_wp2_with fail
        go_loopg [11] NN (fun gg t11 wr => ∃ (r : Nat), Hid (r + gg = NN) ∧ t11 = .int .i64 ((NN : Int) - 1 - (r : Int)) ∧ Hid (C3 W0.heap.size n1 n2 W0 pa' pb' pc' (nts f0 ns) (nts f0 ((ns.reverse.take r).filter (fun n => !odN n))) (nts g0 ((ns.reverse.take r).filter odN)) wr))
        case atStart => exact ⟨0, by unfold Hid; omega, by rw [show ((NN : Int) - 1 - ((0 : Nat) : Int)) = (NN : Int) - 1 by omega], HT⟩
        case round =>
          clear HT
          obtain ⟨r, hr, rfl, hI⟩ := hrel
          by_cases hlt : r < NN
          · obtain ⟨j, hj⟩ : ∃ j, Hid (j + r + 1 = NN) := ⟨NN - 1 - r, by unfold Hid; omega⟩
            rw [show ((NN : Int) - 1 - (r : Int)) = (j : Int) by have := unhide hj; omega]
            have j0 : (0 : Int) ≤ (j : Int) := by omega
            have j1 : (j : Int) < (NN : Int) := by have := unhide hj; omega
            have HRT := hide hlt
            obtain ⟨n, hn⟩ : ∃ n, ns[j]? = some n := ⟨_, List.getElem?_eq_getElem (by rw [unhide hNN]; have := unhide hj; omega)⟩
            have hrn : ns.reverse[r]? = some n := rev_at (by rw [unhide hNN]; exact hlt) (by rw [show ns.length - 1 - r = j by rw [unhide hNN]; have := unhide hj; omega]; exact hn)
            obtain ⟨b, off, la, lc, rfl, hbl, ⟨m0, m1, m2, m3, m4, m5⟩, hrx, hfar⟩ := unhide HNF wr (unhide HWV _ (unhide hI).bl) j n hn
            obtain ⟨AL, hAL⟩ : ∃ AL, Hid (n.ar.length = AL) := ⟨_, hide rfl⟩
            by_cases hod : pck n.on 2 = 1
            · have ho : odN n = true := decide_eq_true hod
              have HTL := hide (tellN_any (Z := (fun k => n2 ≤ k)) (unhide hI).c (unhide hI).oc n.on n.fn n.pc (unhide HOK _ n hn).2.1 hrx (unhide HOK _ n hn).2.2.2 n.k (unhide HOK _ n hn).2.2.1 n.ak (hfar (fun k => n2 ≤ k) (fun k hk => by have h1 := (unhide hI).s1; have h2 := (unhide hI).s2; have h3 := (unhide HB0).size; omega)))
              have HST : Hid (∀ w', BkM (fun k => n2 ≤ k) w' pc' (noteP (nts g0 ((ns.reverse.take r).filter odN)) (n.fn, n.pc) n.ar n.k) → Fr (fun k => n2 ≤ k) wr w' → C3 W0.heap.size n1 n2 W0 pa' pb' pc' (nts f0 ns) (nts f0 ((ns.reverse.take (r + 1)).filter (fun n => !odN n))) (nts g0 ((ns.reverse.take (r + 1)).filter odN)) w') := fun w' h1 h2 => by rw [flt_step hrn, flt_step hrn, if_pos ho, if_neg (by simp [ho])]; exact (unhide hI).tc (Nat.le_refl _) h1 (ntP_ok (unhide hI).oc (unhide HOK _ n hn).2.2.1) h2
              rw [unhide hAL] at m3 HTL
              clear hrx hfar hI hn hrn ho
              go_wp2_with fail
              refine (pick_any _ n.on 2 (by omega) (by omega)).mono ?_
              rintro e w6 ⟨rfl, rfl⟩
              rw [hod]
              clear hod
              go_wp2_with fail
              refine (unhide HTL).mono ?_
              rintro e w7 ⟨rfl, h1, h2⟩
              have HT2 := hide (unhide HST w7 h1 h2)
              clear h1 h2 m0 m1 m2 m3 m4 m5
              go_wp2_with fail
              go_roundg (gk - 1)
              case measure => have := unhide hr; have := unhide HRT; omega
              case rel => exact ⟨r + 1, by have h1 := unhide hr; have h2 := unhide HRT; unfold Hid; omega, by rw [show ((NN : Int) - 1 - ((r + 1 : Nat) : Int)) = (j : Int) - 1 by have := unhide hj; omega], HT2⟩
            · have ho : ¬ odN n = true := by unfold odN; simpa using hod
              have d1 : decide (pck n.on 2 = 1) = false := decide_eq_false hod
              have HTL := hide (tellN_any (Z := (fun k => n1 ≤ k ∧ k < n2)) (unhide hI).b (unhide hI).ob n.on n.fn n.pc (unhide HOK _ n hn).2.1 hrx (unhide HOK _ n hn).2.2.2 n.k (unhide HOK _ n hn).2.2.1 n.ak (hfar (fun k => n1 ≤ k ∧ k < n2) (fun k hk => by have h1 := (unhide hI).s1; have h2 := (unhide hI).s2; have h3 := (unhide HB0).size; omega)))
              have HST : Hid (∀ w', BkM (fun k => n1 ≤ k ∧ k < n2) w' pb' (noteP (nts f0 ((ns.reverse.take r).filter (fun n => !odN n))) (n.fn, n.pc) n.ar n.k) → Fr (fun k => n1 ≤ k ∧ k < n2) wr w' → C3 W0.heap.size n1 n2 W0 pa' pb' pc' (nts f0 ns) (nts f0 ((ns.reverse.take (r + 1)).filter (fun n => !odN n))) (nts g0 ((ns.reverse.take (r + 1)).filter odN)) w') := fun w' h1 h2 => by rw [flt_step hrn, flt_step hrn, if_neg ho, if_pos (by simp [ho])]; exact (unhide hI).tb (Nat.le_refl _) h1 (ntP_ok (unhide hI).ob (unhide HOK _ n hn).2.2.1) h2
              rw [unhide hAL] at m3 HTL
              clear hrx hfar hI hn hrn ho
              go_wp2_with fail
              refine (pick_any _ n.on 2 (by omega) (by omega)).mono ?_
              rintro e w6 ⟨rfl, rfl⟩
              go_wp2_with fail
              refine (unhide HTL).mono ?_
              rintro e w7 ⟨rfl, h1, h2⟩
              have HT2 := hide (unhide HST w7 h1 h2)
              clear h1 h2 m0 m1 m2 m3 m4 m5
              go_wp2_with fail
              go_roundg (gk - 1)
              case measure => have := unhide hr; have := unhide HRT; omega
              case rel => exact ⟨r + 1, by have h1 := unhide hr; have h2 := unhide HRT; unfold Hid; omega, by rw [show ((NN : Int) - 1 - ((r + 1 : Nat) : Int)) = (j : Int) - 1 by have := unhide hj; omega], HT2⟩
          · have hrN : NN = r := by have := unhide hr; omega
            subst hrN
            rw [show ((NN : Int) - 1 - (NN : Int)) = -1 by omega]
            have hT := unhide hI
            rw [List.take_of_length_le (by rw [List.length_reverse, unhide hNN]; exact Nat.le_refl _)] at hT
            have HLA : Hid ((nts f0 ns).map List.length = sh ∧ (nts f0 (ns.reverse.filter (fun n => !odN n))).map List.length = sh ∧ (nts g0 (ns.reverse.filter odN)).map List.length = sh) := ⟨by rw [nts_lens]; exact (unhide HLN).1, by rw [nts_lens]; exact (unhide HLN).1, by rw [nts_lens]; exact (unhide HLN).2⟩
            obtain ⟨fA, hfA⟩ : ∃ f, Hid (nts f0 ns = f) := ⟨_, hide rfl⟩
            obtain ⟨fB, hfB⟩ : ∃ f, Hid (nts f0 (ns.reverse.filter (fun n => !odN n)) = f) := ⟨_, hide rfl⟩
            obtain ⟨fC, hfC⟩ : ∃ f, Hid (nts g0 (ns.reverse.filter odN) = f) := ⟨_, hide rfl⟩
            rw [unhide hfA, unhide hfB, unhide hfC] at hT HLA HCU
            have HT := hide hT
            clear hT hI
            have HBB : Hid (Bd fB ∧ Bd fC) := ⟨unhide HBD _ (unhide HLA).2.1 (unhide HT).ob, unhide HBD _ (unhide HLA).2.2 (unhide HT).oc⟩
            have HMGw : Hid (∀ (V : World) (u v : Value) (f g : List (List Sp)), PfV V u f → PfV V v g → Bd f → Bd g → Calls Tryz.prog 10 #[.agg #[u], .agg #[v]] V fun e V' => ∃ ra rn rc, e = .returned (.agg #[.slice ra rn rc]) ∧ Hid (PfV V' (.slice ra rn rc) (mrg f g)) ∧ Below V.heap.size V V') := fun V u v f g h1 h2 k1 k2 => (merge_any h1 h2 k1.2.1 k1.2.2 k2.2.1 k2.2.2 k1.1 k2.1).mono (fun e V' ⟨gv, vs, he, ho, hbl⟩ => by
              obtain ⟨ra, rc, er, _, _⟩ := (OW.pf ho).shape
              refine ⟨ra, (mrg f g).length, rc, ?_, ?_, hbl⟩
              · rw [he, er]
              · rw [← er]; exact OW.pf ho)
            have HPR : Hid (∀ (V : World) (p : Nat) (Z : Nat → Prop) (f : List (List Sp)), BkM Z V p f → OkF f → f.map List.length = sh → Calls Tryz.prog 17 #[.pointer (some ⟨p, 0, none⟩)] V fun e V' => ∃ ra rn rc, e = .returned (.agg #[.slice ra rn rc]) ∧ Hid (PfV V' (.slice ra rn rc) f) ∧ Below V.heap.size V V') := fun V p Z f h1 h2 h3 => (profile_any h1 h2 (by rw [← List.length_map (f := List.length), h3]; exact unhide HLL) (by rw [h3]; exact unhide HSM)).mono (fun e V' ⟨gv, vs, he, ho, hbl⟩ => by
              obtain ⟨ra, rc, er, _, _⟩ := (OW.pf ho).shape
              refine ⟨ra, f.length, rc, ?_, ?_, hbl⟩
              · rw [he, er]
              · rw [← er]; exact OW.pf ho)
            go_wp2_with fail
            refine (unhide HPR _ pb' _ fB (unhide HT).b (unhide HT).ob (unhide HLA).2.1).mono ?_
            rintro e w6 ⟨ua, un, uc, rfl, HPu, hb6⟩
            have HT6 := hide ((unhide HT).on (Nat.le_refl _) hb6)
            go_wp2_with fail
            refine (unhide HPR _ pc' _ fC (unhide HT6).c (unhide HT6).oc (unhide HLA).2.2).mono ?_
            rintro e w7 ⟨va, vn, vc, rfl, HPv, hb7⟩
            have HT7 := hide ((unhide HT6).on (Nat.le_refl _) hb7)
            go_wp2_with fail
            refine (unhide HMGw _ _ _ fB fC ((unhide HPu).below hb7 (Nat.le_refl _)) (unhide HPv) (unhide HBB).1 (unhide HBB).2).mono ?_
            rintro e w8 ⟨ga, gn, gc, rfl, HPg, hb8⟩
            have HT8 := hide ((unhide HT7).on (Nat.le_refl _) hb8)
            clear hb6 hb7 hb8 HT HT6 HT7 HPu HPv
            go_wp2_with fail
            obtain ⟨xb, hxb⟩ : ∃ b, Hid (w8.heap.size = b) := ⟨_, hide rfl⟩
            obtain ⟨X, hX⟩ : ∃ X, Hid (w8.alloc (.cells #[.slice ga gn gc] 25) = X) := ⟨_, hide rfl⟩
            have hb8X : Below w8.heap.size w8 X := by rw [← unhide hX]; exact (Below.refl _ w8).alloc (Nat.le_refl _) _
            have HTX := hide ((unhide HT8).on (Nat.le_refl _) hb8X)
            have HX0 : Hid (Below X.heap.size X X.drew) := ⟨rfl, rfl, rfl, Nat.le_refl _, fun _ _ => rfl⟩
            have hxx : X.heap[xb]? = some (.cells #[.slice ga gn gc] 25) := by rw [← unhide hX, ← unhide hxb]; exact heap_alloc_new w8 _
            have HU : Hid (∀ V, Below X.heap.size X V → V.cell? ⟨xb, 0, none⟩ = some (.slice ga gn gc)) := fun V hV => (blk_cells ((hV.block xb (blk_cells hxx).2.2).trans hxx)).1 0
            have HPVg : Hid (∀ V, Below X.heap.size X V → PfV V (.slice ga gn gc) (mrg fB fC)) := fun V hV => ((unhide HPg).below hb8X (Nat.le_refl _)).below hV (Nat.le_refl _)
            have HTV : Hid (∀ V, Below X.heap.size X V → C3 W0.heap.size n1 n2 W0 pa' pb' pc' fA fB fC V) := fun V hV => (unhide HTX).on (Nat.le_refl _) hV
            have HPR2 : Hid (∀ (V : World) (p : Nat) (Z : Nat → Prop) (f : List (List Sp)), Below X.heap.size X V → BkM Z V p f → OkF f → f.map List.length = sh → Calls Tryz.prog 17 #[.pointer (some ⟨p, 0, none⟩)] V fun e V' => ∃ ra rn rc, e = .returned (.agg #[.slice ra rn rc]) ∧ Hid (PfV V' (.slice ra rn rc) f) ∧ Hid (Below X.heap.size X V') ∧ Hid (Below V.heap.size V V')) := fun V p Z f hV h1 h2 h3 => (unhide HPR V p Z f h1 h2 h3).mono (fun e V' ⟨ra, rn, rc, g1, g2, g3⟩ => ⟨ra, rn, rc, g1, g2, hV.trans (g3.mono hV.size), g3⟩)
            have HMG : Hid (∀ (V : World) (u v : Value) (f g : List (List Sp)), Below X.heap.size X V → PfV V u f → PfV V v g → Bd f → Bd g → Calls Tryz.prog 10 #[.agg #[u], .agg #[v]] V fun e V' => ∃ ra rn rc, e = .returned (.agg #[.slice ra rn rc]) ∧ Hid (PfV V' (.slice ra rn rc) (mrg f g)) ∧ Hid (Below X.heap.size X V') ∧ Hid (Below V.heap.size V V')) := fun V u v f g hV h1 h2 k1 k2 => (unhide HMGw V u v f g h1 h2 k1 k2).mono (fun e V' ⟨ra, rn, rc, h1, h2, h3⟩ => ⟨ra, rn, rc, h1, h2, hV.trans (h3.mono hV.size), h3⟩)
            have HSM2 : Hid (∀ (V : World) (u v : Value) (f g : List (List Sp)), Below X.heap.size X V → PfV V u f → PfV V v g → Calls Tryz.prog 11 #[.agg #[u], .agg #[v]] V fun e V' => e = .returned (.bool (Dc (f = g))) ∧ Hid (Below X.heap.size X V')) := fun V u v f g hV h1 h2 => (sameP_any h1 h2).mono (fun e V' ⟨h1, h3⟩ => ⟨h1, hV.trans (h3.mono hV.size)⟩)
            have HSH : Hid (∀ V, Below X.heap.size X V → Calls Tryz.prog 7 #[] V fun e V' => e = .returned (.bool true) ∧ Hid (Below X.heap.size X V')) := fun V hV => (shown_any V).mono (fun e V' ⟨h1, h3⟩ => ⟨h1, hV.trans (h3.mono hV.size)⟩)
            have HE1 : Hid (fA = mrg fB fC) := HCU
            have HE2 : Hid (mrg fC fB = mrg fB fC) := mrg_comm (unhide HBB).2.1 (unhide HBB).1.1
            have HWX : Hid (∀ V, Below X.heap.size X V → Below w.heap.size w V) := fun V hV => unhide HWV _ (unhide HTV V hV).bl
            rw [unhide hxb, unhide hX]
            clear hX hxx hb8X HT8 HTX HPg HPR HMGw HCU
            refine wp_region_held_drew (S := (fun V => Below X.heap.size X V)) (by kernel_rfl) (unhide HX0) (fun hHeld => ?_)
            clear hHeld
            refine wpAnyH_take (i := 0) (oi := _) (v := .pointer (some ⟨pa', 0, none⟩)) rfl (by kernel_rfl) (by kernel_rfl) (by kernel_rfl) (fun _ _ _ h => h) (Or.inl ⟨by rfl, (by intro w' hSw; have x0 := unhide HU w' hSw; go_simp)⟩) (unhide HX0) ?_
            go_simp
            refine wpAnyH_take (i := 2) (oi := _) (v := .agg #[.slice ga gn gc]) rfl (by kernel_rfl) (by kernel_rfl) (by kernel_rfl) (fun _ _ _ h => h) (Or.inl ⟨by rfl, (by intro w' hSw; have x0 := unhide HU w' hSw; go_simp)⟩) (unhide HX0) ?_
            go_simp
            refine wpAnyH_ready (rs := [1]) (by kernel_rfl) (by simp) ?_
            refine AllReadyH.cons (o := _) rfl (fun K hK => ?_) AllReadyH.nil
            go_simp
            refine (unhide HPR2 _ pa' _ fA (unhide HX0) (unhide HTV _ (unhide HX0)).a (unhide HTV _ (unhide HX0)).oa (unhide HLA).1).mono ?_
            rintro e V1 ⟨da, dn, dc, rfl, HPd, HBV1, HNV1⟩
            go_simp
            refine hK.out _ _ (unhide HBV1) (fun _ => ?_)
            clear hK K
            go_simp
            refine wpAnyH_ready (rs := [3]) (by kernel_rfl) (by simp) ?_
            refine AllReadyH.cons (o := _) rfl (fun K hK => ?_) AllReadyH.nil
            go_simp
            refine (unhide HSM2 _ _ _ fA (mrg fB fC) (unhide HBV1) (unhide HPd) (unhide HPVg _ (unhide HBV1))).mono ?_
            rintro e V2 ⟨rfl, HBV2⟩
            rw [Dc_true (by exact unhide HE1 : fA = (mrg fB fC))]
            go_simp
            refine hK.out _ _ (unhide HBV2) (fun _ => ?_)
            clear hK K
            go_simp
            refine wpAnyH_take (i := 4) (oi := _) (v := .bool true) rfl (by kernel_rfl) (by kernel_rfl) (by kernel_rfl) (fun _ _ _ h => h) (Or.inl ⟨by rfl, (by intro w' hSw; have x0 := unhide HU w' hSw; go_simp)⟩) (unhide HBV2) ?_
            go_simp
            refine wpAnyH_take (i := 5) (oi := _) (v := .pointer (some ⟨pc', 0, none⟩)) rfl (by kernel_rfl) (by kernel_rfl) (by kernel_rfl) (fun _ _ _ h => h) (Or.inl ⟨by rfl, (by intro w' hSw; have x0 := unhide HU w' hSw; go_simp)⟩) (unhide HBV2) ?_
            go_simp
            refine wpAnyH_take (i := 7) (oi := _) (v := .pointer (some ⟨pb', 0, none⟩)) rfl (by kernel_rfl) (by kernel_rfl) (by kernel_rfl) (fun _ _ _ h => h) (Or.inl ⟨by rfl, (by intro w' hSw; have x0 := unhide HU w' hSw; go_simp)⟩) (unhide HBV2) ?_
            go_simp
            refine wpAnyH_take (i := 10) (oi := _) (v := .agg #[.slice ga gn gc]) rfl (by kernel_rfl) (by kernel_rfl) (by kernel_rfl) (fun _ _ _ h => h) (Or.inl ⟨by rfl, (by intro w' hSw; have x0 := unhide HU w' hSw; go_simp)⟩) (unhide HBV2) ?_
            go_simp
            refine wpAnyH_ready (rs := [6]) (by kernel_rfl) (by simp) ?_
            refine AllReadyH.cons (o := _) rfl (fun K hK => ?_) AllReadyH.nil
            go_simp
            refine (unhide HPR2 _ pc' _ fC (unhide HBV2) (unhide HTV _ (unhide HBV2)).c (unhide HTV _ (unhide HBV2)).oc (unhide HLA).2.2).mono ?_
            rintro e V3 ⟨ha, hn, hc, rfl, HPh, HBV3, HNV3⟩
            go_simp
            refine hK.out _ _ (unhide HBV3) (fun _ => ?_)
            clear hK K
            go_simp
            refine wpAnyH_ready (rs := [8]) (by kernel_rfl) (by simp) ?_
            refine AllReadyH.cons (o := _) rfl (fun K hK => ?_) AllReadyH.nil
            go_simp
            refine (unhide HPR2 _ pb' _ fB (unhide HBV3) (unhide HTV _ (unhide HBV3)).b (unhide HTV _ (unhide HBV3)).ob (unhide HLA).2.1).mono ?_
            rintro e V4 ⟨ka, kn, kc, rfl, HPk, HBV4, HNV4⟩
            go_simp
            refine hK.out _ _ (unhide HBV4) (fun _ => ?_)
            clear hK K
            go_simp
            refine wpAnyH_ready (rs := [9]) (by kernel_rfl) (by simp) ?_
            refine AllReadyH.cons (o := _) rfl (fun K hK => ?_) AllReadyH.nil
            go_simp
            refine (unhide HMG _ _ _ fC fB (unhide HBV4) ((unhide HPh).below (unhide HNV4) (Nat.le_refl _)) (unhide HPk) (unhide HBB).2 (unhide HBB).1).mono ?_
            rintro e V5 ⟨ma, mn, mc, rfl, HPm, HBV5, HNV5⟩
            go_simp
            refine hK.out _ _ (unhide HBV5) (fun _ => ?_)
            clear hK K
            go_simp
            refine wpAnyH_ready (rs := [11]) (by kernel_rfl) (by simp) ?_
            refine AllReadyH.cons (o := _) rfl (fun K hK => ?_) AllReadyH.nil
            go_simp
            refine (unhide HSM2 _ _ _ (mrg fC fB) (mrg fB fC) (unhide HBV5) (unhide HPm) (unhide HPVg _ (unhide HBV5))).mono ?_
            rintro e V6 ⟨rfl, HBV6⟩
            rw [Dc_true (by exact unhide HE2 : (mrg fC fB) = (mrg fB fC))]
            go_simp
            refine hK.out _ _ (unhide HBV6) (fun _ => ?_)
            clear hK K
            go_simp
            refine wpAnyH_take (i := 12) (oi := _) (v := .bool true) rfl (by kernel_rfl) (by kernel_rfl) (by kernel_rfl) (fun _ _ _ h => h) (Or.inl ⟨by rfl, (by intro w' hSw; have x0 := unhide HU w' hSw; go_simp)⟩) (unhide HBV6) ?_
            go_simp
            refine wpAnyH_take (i := 13) (oi := _) (v := .bool true) rfl (by kernel_rfl) (by kernel_rfl) (by kernel_rfl) (fun _ _ _ h => h) (Or.inl ⟨by rfl, (by intro w' hSw; have x0 := unhide HU w' hSw; go_simp)⟩) (unhide HBV6) ?_
            go_simp
            refine wpAnyH_ready (rs := [14]) (by kernel_rfl) (by simp) ?_
            refine AllReadyH.cons (o := _) rfl (fun K hK => ?_) AllReadyH.nil
            go_simp
            refine (unhide HSH _ (unhide HBV6)).mono ?_
            rintro e VZ ⟨rfl, HBVZ⟩
            go_simp
            refine hK.out _ _ (unhide HBVZ) (fun _ => ?_)
            clear hK K
            go_simp
            refine wpAnyH_take (i := 15) (oi := _) (v := .bool true) rfl (by kernel_rfl) (by kernel_rfl) (by kernel_rfl) (fun _ _ _ h => h) (Or.inl ⟨by rfl, (by intro w' hSw; have x0 := unhide HU w' hSw; go_simp)⟩) (unhide HBVZ) ?_
            go_simp
            refine wpAnyH_take (i := 16) (oi := _) (v := .bool true) rfl (by kernel_rfl) (by kernel_rfl) (by kernel_rfl) (fun _ _ _ h => h) (Or.inl ⟨by rfl, (by intro w' hSw; have x0 := unhide HU w' hSw; go_simp)⟩) (unhide HBVZ) ?_
            go_simp
            refine wpAnyH_done (by kernel_rfl) ?_ _
            go_simp
            go_wp2_with fail
            go_ret
            exact ⟨rfl, unhide HWX _ (unhide HBVZ)⟩
end Go.Proofs.YtclcebdcdbcpjaaGreat
