/-
  VerifyMemory: the rows of three answers; the code that is written over.
-/
import Derived.Test.YtbkfnmkfbdoadaaGreatDoorTApt1
import Derived.Deep.RegionHeld3
import Derived.Test.YtbkfnmkfbdoadaaGreatDoorTOut
import Derived.Test.YtbkfnmkfbdoadaaGreatDoorCopyP
namespace Go.Proofs.YtbkfnmkfbdoadaaGreatDoor
open Go.RowKit
set_option linter.unusedVariables false
set_option linter.unusedSimpArgs false

theorem rw_at {vs : List Value} {j : Nat} (h : j < vs.length) : vs[j]? = some (rw_ vs j) := by
  rw [rw_, List.getD_eq_getElem?_getD, List.getElem?_eq_getElem h]; rfl
/-- The list of the rows, where the rows don't lie. -/
theorem Rx.far {w : World} {a : Option Addr} {n cap : Nat} {vs : List Value} (h : Rx w 1 (.slice a n cap) vs.length vs) (hf : ∀ b, (Value.slice a n cap).ownBlock = some b → ¬ bk vs b) :
    ∀ j, j < vs.length → ∃ cb co, a = some ⟨cb, co, none⟩ ∧ cb < w.heap.size ∧ w.cell? ⟨cb, co + j, none⟩ = some (rw_ vs j) ∧ ¬ bk vs cb := by
  intro j hj
  obtain ⟨_, a', cap', e, _, _, h4⟩ := h
  cases e
  obtain ⟨b, off, e, hb, hc⟩ := h4 (by omega)
  subst e
  exact ⟨b, off, rfl, hb, (hc j (by omega)).trans (rw_at hj), hf b rfl⟩
theorem mi_eq (j t : Nat) : mi j t = 1000003 * ((j : Int) + 1) + (t : Int) := rfl

set_option maxHeartbeats 3200000 in
set_option maxRecDepth 100000 in
theorem apartInts_any {w : World} {lv : Value} {vs : List Value} {ns : Nat → Nat} (hV : Rx w 1 lv vs.length vs) (hf : ∀ b, lv.ownBlock = some b → ¬ bk vs b) (hM : MK w vs ns 0 0 w) (hC : GC w vs) (hK : vs.length ≤ 1000) (hns : ∀ k, ns k ≤ 100000) :
    Calls Tryz.prog 13 #[lv] w fun e w' => e = .returned (.bool true) ∧ Fr (bk vs) w w' := by
  obtain ⟨a, cap, rfl⟩ : ∃ a cap, lv = .slice a vs.length cap := by obtain ⟨_, a, cap, e, _⟩ := hV; exact ⟨a, cap, e⟩
  have HC := hide (hV.far hf)
  have Hns := hide hns
  have HGC := hide hC
  obtain ⟨K, hKK⟩ : ∃ K, Hid (vs.length = K) := ⟨_, rfl⟩
  rw [unhide hKK] at hK ⊢
  have HM := hide hM
  clear hV hf hM hns hC
  go_enter Tryz.func13, Tryz.ntmps13
  go_wp2
  go_loopg [3] K (fun k s wr => ∃ (j : Nat), Hid (j + k = K) ∧ s = .int .i64 (j : Int) ∧ Hid (MK w vs ns j 0 wr))
  case atStart => exact ⟨0, by unfold Hid; omega, rfl, HM⟩
  case round =>
    obtain ⟨j, hj, rfl, hMk⟩ := hrel
    by_cases hlt : j < K
    · have Hjv : Hid (j < vs.length) := by rw [Hid, unhide hKK]; exact hlt
      obtain ⟨cb, co, rfl, hcb, hc, hfar⟩ := unhide HC j (unhide Hjv)
      obtain ⟨ar, capr, hvj, _⟩ := (unhide hMk).cell (unhide Hjv)
      obtain ⟨n, hn⟩ : ∃ n, Hid (ns j = n) := ⟨_, rfl⟩
      rw [unhide hn] at hvj
      have hnb : n ≤ 100000 := by rw [← unhide hn]; exact unhide Hns j
      have HVJ := hide hvj
      have Hfar := hide hfar
      have Hc := hide hc
      have i1 : (0 : Int) ≤ (j : Int) := by omega
      have i2 : (j : Int) < (K : Int) := by omega
      obtain ⟨G, hG⟩ : ∃ G, Hid (G = gk) := ⟨gk, rfl⟩
      clear hc hfar hvj
      go_wp2
      go_loopg [4] n (fun k s wr => ∃ (i : Nat), Hid (i + k = n) ∧ s = .int .i64 (i : Int) ∧ Hid (MK w vs ns j i wr))
      case atStart => exact ⟨0, by unfold Hid; omega, rfl, hMk⟩
      case round =>
        obtain ⟨i, hi, rfl, hMi⟩ := hrel
        have hcr : wr.cell? ⟨cb, co + j, none⟩ = some (.slice ar n capr) := by
          rw [(unhide hMi).fr.cell (a := ⟨cb, co + j, none⟩) hcb (unhide Hfar), unhide Hc, unhide HVJ]
        by_cases hin : i < n
        · obtain ⟨ar', capr', hv', hx⟩ := (unhide hMi).cell (unhide Hjv)
          obtain ⟨g, off, z, har, hgb, hz, hfz⟩ := hx (by rw [unhide hn]; exact hin)
          have hvv := hv'
          rw [unhide HVJ] at hv'
          simp only [Value.slice.injEq] at hv'
          obtain ⟨e1, _, e2⟩ := hv'
          subst e1
          subst e2
          subst har
          have hst := (unhide hMi).step (unhide HGC).ap (unhide Hjv) (by rw [unhide hn]; exact hin) hvv
          rw [mi_eq] at hst
          have HST := hide hst
          have j1 : (0 : Int) ≤ (i : Int) := by omega
          have j2 : (i : Int) < (n : Int) := by omega
          clear hst hvv hx hgb
          go_wp2
          go_roundg (gk - 1)
          case measure => have := unhide hi; omega
          case rel => exact ⟨i + 1, by have := unhide hi; unfold Hid; omega, by go_num, HST⟩
        · have hin' : i = n := by have := unhide hi; omega
          subst hin'
          have HN : Hid (MK w vs ns (j + 1) 0 wr) := by
            have h := unhide hMi
            rw [← unhide hn] at h
            exact h.next
          go_wp2
          go_roundg (G - 1)
          case measure => have := unhide hj; have := unhide hG; omega
          case rel => exact ⟨j + 1, by have := unhide hj; have := unhide hG; unfold Hid; omega, by go_num, HN⟩
    · have hjK : K = j := by have := unhide hj; omega
      have hMK : MK w vs ns vs.length 0 wr := by rw [unhide hKK, hjK]; exact unhide hMk
      have HGR := hide (GR.start hMK (unhide HGC))
      have i2 : ¬ (j : Int) < (K : Int) := by omega
      clear hMK hjK hMk
      go_wp2
      go_loopg [5, 6] K (fun k s5 s6 wr => ∃ (j : Nat) (cur : Nat → Value), Hid (j + k = K) ∧ s6 = .int .i64 (j : Int) ∧ Hid (∀ j', j ≤ j' → cur j' = rw_ vs j') ∧ Hid (GR w vs ns j 0 cur s5 wr))
      case atStart => exact ⟨0, _, by unfold Hid; omega, rfl, fun j' _ => rfl, HGR⟩
      case round =>
        obtain ⟨j, cur, hj, rfl, hcu, hGr⟩ := hrel
        by_cases hlt : j < K
        · have Hjv : Hid (j < vs.length) := by rw [Hid, unhide hKK]; exact hlt
          obtain ⟨cb, co, rfl, hcb, hc, hfar⟩ := unhide HC j (unhide Hjv)
          obtain ⟨n, hn⟩ : ∃ n, Hid (ns j = n) := ⟨_, rfl⟩
          have hsh := ((unhide hGr).own j (unhide Hjv)).shape
          rw [gln_at, unhide hn, unhide hcu j (Nat.le_refl _)] at hsh
          obtain ⟨ar, capr, hvj, _, _⟩ := hsh
          have hnb : n ≤ 100000 := by rw [← unhide hn]; exact unhide Hns j
          have hcu0 := unhide hcu j (Nat.le_refl _)
          rw [hvj] at hcu0 hc
          rw [Nat.add_zero] at hcu0 hc
          have Hc := hide hc
          have HCU := hide hcu0
          have Hfar := hide hfar
          have hcr : wr.cell? ⟨cb, co + j, none⟩ = some (.slice ar n capr) := ((unhide hGr).fr.cell (a := ⟨cb, co + j, none⟩) hcb (unhide Hfar)).trans hc
          have i1 : (0 : Int) ≤ (j : Int) := by omega
          have i2 : (j : Int) < (K : Int) := by omega
          obtain ⟨G, hG⟩ : ∃ G, Hid (G = gk) := ⟨gk, rfl⟩
          clear hc hfar hvj hcu0
          go_wp2
          clear hcr
          go_loopg [7, 8] 64 (fun k s7 s8 wr => ∃ (i : Nat) (cur : Nat → Value), Hid (i + k = 64) ∧ i ≤ 64 ∧ s8 = .int .i64 (i : Int) ∧ Hid (cur j = s7 ∧ ∀ j', j + 1 ≤ j' → cur j' = rw_ vs j') ∧ Hid (GR w vs ns j i cur u5 wr))
          case atStart => exact ⟨0, cur, by unfold Hid; omega, by omega, rfl, ⟨unhide HCU, fun j' h => unhide hcu j' (by omega)⟩, hGr⟩
          case round =>
            obtain ⟨i, cur, hi, hi64, rfl, hcu7, hGi⟩ := hrel
            have hcr : wr.cell? ⟨cb, co + j, none⟩ = some (.slice ar n capr) := ((unhide hGi).fr.cell (a := ⟨cb, co + j, none⟩) hcb (unhide Hfar)).trans (unhide Hc)
            by_cases hin : i < 64
            · have j2 : (i : Int) < 64 := by omega
              have hown := (unhide hGi).own j (unhide Hjv)
              rw [gln_at, (unhide hcu7).1, unhide hn] at hown
              have HO : Hid (Ro (wr.alloc (.cells #[.int .i64 (1000003 * ((j : Int) + 1) + (n : Int) + (i : Int))] 3)) 1 u7 (ms j (n + i)).length (flt enN (ms j (n + i)))) := by
                rw [Hid, ms_length]; exact hown.fr (S := fun _ => False) ((Fr.refl _ wr).alloc _) (fun _ _ e => e)
              have HNC : Hid (∀ t u', [Value.int .i64 (1000003 * ((j : Int) + 1) + (n : Int) + (i : Int))][t]? = some u' → (wr.alloc (.cells #[.int .i64 (1000003 * ((j : Int) + 1) + (n : Int) + (i : Int))] 3)).cell? ((⟨wr.heap.size, 0, none⟩ : Addr).add t) = some u') := new_cells wr #[.int .i64 (1000003 * ((j : Int) + 1) + (n : Int) + (i : Int))] 3
              clear hown
              go_wp2_with (first | (at_builtin; refine wpList_appK rfl _ _ rfl u7 (ms j (n + i)) rfl (unhide HO) ⟨wr.heap.size, 0, none⟩ 1 (1000003 * ((j : Int) + 1) + (n : Int) + (i : Int)) rfl (unhide HNC) (by rw [ms_length]; omega) ?_))
              intro v' w2 hown' hgrow hat hRd
              have HN : Hid (GR w vs ns j (i + 1) (updV cur j v') u5 w2) := hide (by
                rw [ms_length] at hown' hat hRd
                refine (unhide hGi).step (unhide HGC) (unhide Hjv) (o := _) ?_ (by rw [(unhide hcu7).1]; exact hgrow) (by rw [(unhide hcu7).1, unhide hn]; simpa using hat) (by rw [(unhide hcu7).1, unhide hn]; exact hRd)
                rw [unhide hn, ← Nat.add_assoc, ms_succ, flt_append, flt_one, mi_eq]
                have e : (1000003 * ((j : Int) + 1) + ((n + i : Nat) : Int)) = 1000003 * ((j : Int) + 1) + (n : Int) + (i : Int) := by omega
                rw [e]
                exact hown')
              clear hown' hgrow hat hRd
              go_wp2
              go_roundg (gk - 1)
              case measure => have := unhide hi; omega
              case rel => exact ⟨i + 1, updV cur j v', by have := unhide hi; unfold Hid; omega, by omega, by go_num, ⟨updV_at _ _ _, fun j' h => by rw [updV_ne _ _ (by omega)]; exact (unhide hcu7).2 j' h⟩, HN⟩
            · obtain rfl : i = 64 := by omega
              have j2 : ¬ ((64 : Nat) : Int) < 64 := by omega
              obtain ⟨a7, c7, h7, _, _⟩ := ((unhide hGi).own j (unhide Hjv)).shape
              rw [gln_at, unhide hn, (unhide hcu7).1] at h7
              subst h7
              have HO : Hid (Ro (wr.alloc (.cells #[.slice a7 (n + 64) c7] 27)) 1 u5 j ((List.range j).map cur)) := (unhide hGi).gown.fr (S := fun _ => False) ((Fr.refl _ wr).alloc _) (fun _ _ e => e)
              have HNC : Hid (∀ t u', [Value.slice a7 (n + 64) c7][t]? = some u' → (wr.alloc (.cells #[.slice a7 (n + 64) c7] 27)).cell? ((⟨wr.heap.size, 0, none⟩ : Addr).add t) = some u') := new_cells wr #[.slice a7 (n + 64) c7] 27
              clear hcr
              go_wp2_with (first | (at_builtin; refine wpList_appL rfl _ _ rfl u5 j ((List.range j).map cur) rfl (unhide HO) ⟨wr.heap.size, 0, none⟩ 1 (.slice a7 (n + 64) c7) rfl rfl (unhide HNC) (by omega) ?_))
              intro v' w2 hown' hgrow hat
              have HN : Hid (GR w vs ns (j + 1) 0 cur v' w2) := hide ((unhide hGi).push (unhide HGC) (o := _) (by rw [(unhide hcu7).1]; exact hown') hgrow (by simpa using hat))
              clear hown' hgrow hat
              go_wp2
              go_roundg (G - 1)
              case measure => have := unhide hj; have := unhide hG; omega
              case rel => exact ⟨j + 1, cur, by have := unhide hj; have := unhide hG; unfold Hid; omega, by go_num, (unhide hcu7).2, HN⟩
        · have hjK : K = j := by have := unhide hj; omega
          have hGK : Hid (GR w vs ns K 0 cur u5 wr) := by rw [hjK]; exact hGr
          have i2 : ¬ (j : Int) < (K : Int) := by omega
          clear hjK hGr hcu
          go_wp2
          go_loopg [9] K (fun k s9 wq => ∃ (j : Nat), Hid (j + k = K) ∧ s9 = .int .i64 (j : Int) ∧ wq = wr)
          case atStart => exact ⟨0, by unfold Hid; omega, rfl, rfl⟩
          case round =>
            obtain ⟨j, hj, rfl, rfl⟩ := hrel
            by_cases hlt : j < K
            · have hjv : j < vs.length := by rw [unhide hKK]; exact hlt
              obtain ⟨cb, co, rfl, hcb, hc, hfar⟩ := unhide HC j hjv
              obtain ⟨n, hn⟩ : ∃ n, Hid (ns j = n) := ⟨_, rfl⟩
              have hnb : n ≤ 100000 := by rw [← unhide hn]; exact unhide Hns j
              have hold := (unhide hGK).old j hjv
              rw [unhide hn] at hold
              obtain ⟨ar, capr, hvj⟩ : ∃ ar capr, rw_ vs j = .slice ar n capr := by obtain ⟨_, ar, capr, e, _⟩ := hold; exact ⟨ar, capr, e⟩
              rw [hvj] at hc hold
              have hcj := (unhide hGK).own j hjv
              have hgl : gln ns K 0 j = n + 64 := by unfold gln; rw [if_pos hlt, unhide hn]
              rw [hgl] at hcj
              obtain ⟨b1, o1, c7, h7, _, _, hb1, hc1⟩ := hcj.full (by omega)
              obtain ⟨gb, go, gcap, hu5, _, _, hgb, hgc⟩ := (unhide hGK).gown.full (by omega)
              have hgc0 := hgc j (by omega)
              rw [List.getElem?_map, List.getElem?_range hlt, Option.map_some, h7] at hgc0
              subst hu5
              have i1 : (0 : Int) ≤ (j : Int) := by omega
              have i2 : (j : Int) < (K : Int) := by omega
              obtain ⟨G, hG⟩ : ∃ G, Hid (G = gk) := ⟨gk, rfl⟩
              have HOld := hide hold
              have HC1 := hide hc1
              have hcr := ((unhide hGK).fr.cell (a := ⟨cb, co + j, none⟩) hcb hfar).trans hc
              clear hc hfar hvj hold hcj hgl h7 hjv hgc hc1
              go_wp2
              go_loopg [10] (n + 64) (fun k s10 wq => ∃ (i : Nat), Hid (i + k = n + 64) ∧ s10 = .int .i64 (i : Int) ∧ wq = wr)
              case atStart => exact ⟨0, by unfold Hid; omega, rfl, rfl⟩
              case round =>
                obtain ⟨i, hi, rfl, rfl⟩ := hrel
                by_cases hin : i < n + 64
                · have hc1 := unhide HC1 i (by omega)
                  rw [flt_map, List.getElem?_map, ms_at hin, Option.map_some, mi_eq] at hc1
                  have j1 : (0 : Int) ≤ (i : Int) := by omega
                  have j2 : (i : Int) < (n : Int) + 64 := by omega
                  by_cases hil : i < n
                  · obtain ⟨_, ar', capr', e8, _, _, h83⟩ := unhide HOld
                    cases e8
                    obtain ⟨b2, o2, rfl, hb2, hc2'⟩ := h83 (by omega)
                    have hc2 := hc2' i (by omega)
                    rw [flt_map, List.getElem?_map, ms_at hil, Option.map_some, mi_eq] at hc2
                    have j3 : (i : Int) < (n : Int) := by omega
                    clear hc2' h83
                    go_wp2
                    go_roundg (gk - 1)
                    case measure => have := unhide hi; omega
                    case rel => exact ⟨i + 1, by have := unhide hi; unfold Hid; omega, by go_num, rfl⟩
                  · have j3 : ¬ (i : Int) < (n : Int) := by omega
                    go_wp2
                    go_roundg (gk - 1)
                    case measure => have := unhide hi; omega
                    case rel => exact ⟨i + 1, by have := unhide hi; unfold Hid; omega, by go_num, rfl⟩
                · have j2 : ¬ (i : Int) < (n : Int) + 64 := by omega
                  go_wp2
                  go_roundg (G - 1)
                  case measure => have := unhide hj; have := unhide hG; omega
                  case rel => exact ⟨j + 1, by have := unhide hj; have := unhide hG; unfold Hid; omega, by go_num, rfl⟩
            · have i2 : ¬ (j : Int) < (K : Int) := by omega
              go_wp2
              go_ret
              exact ⟨rfl, (unhide hGK).fr⟩

set_option linter.unusedVariables false
set_option linter.unusedSimpArgs false

theorem Fr.heldIn {S : Nat → Prop} {w a : World} (h : Fr S w a) {p : Addr} {v : Value} (hp : p.block < w.heap.size) (hn : ¬ S p.block) (hc : w.cell? p = some v) : a.cell? p = some v := (h.cell hp hn).trans hc
/-- A list of a function is written over in one place. -/
theorem OP.setI {B : Nat} {p : Pg} {xs : List Fv} {cv fv : Value} {wr : World} (h : OP B p xs cv fv wr) {k n cg co ccap m : Nat} {f : Fc} {x : Fv} {q : Int × Int} (a b : Int) (hx : xs[k]? = some x) (hf : p.funcs[k]? = some f) (hq : f.code[n]? = some q) (e : x.cv = .slice (some ⟨cg, co, none⟩) m ccap) :
    OP B { p with funcs := p.funcs.set k { f with code := f.code.set n (a, b) } } xs cv fv ((wr.setCell ⟨cg, co + n * 2, none⟩ (.int .i64 a)).setCell ⟨cg, co + n * 2 + 1, none⟩ (.int .i64 b)) := by
  have hF := h.pt.rows k f x hf hx
  have hP := (hF.2.2.2.1.part zI (x' := (a, b)) (j := 0) (vs := enI (a, b)) e hq (by simp [enI]) (fun i hi => by
        rw [if_pos (by simp [enI]; omega)]; rfl)).1
  have hst : wr.setCells cg (co + n * 2 + 0) (enI (a, b)) = (wr.setCell ⟨cg, co + n * 2, none⟩ (.int .i64 a)).setCell ⟨cg, co + n * 2 + 1, none⟩ (.int .i64 b) := rfl
  rw [hst] at hP
  have fr : Fr (fun b => x.cv.ownBlock = some b ∨ x.hv.ownBlock = some b) wr ((wr.setCell ⟨cg, co + n * 2, none⟩ (.int .i64 a)).setCell ⟨cg, co + n * 2 + 1, none⟩ (.int .i64 b)) :=
    ((Fr.refl (fun b => x.cv.ownBlock = some b ∨ x.hv.ownBlock = some b) wr).setCell ⟨cg, co + n * 2, none⟩ (.inr (.inl (by rw [e]; rfl))) _).setCell ⟨cg, co + n * 2 + 1, none⟩ (.inr (.inl (by rw [e]; rfl))) _
  have hne : ∀ b, x.hv.ownBlock = some b → b ≠ cg := fun b hb e2 => ((h.pt.each k k x x b hx hx).1 (by rw [e, e2]; rfl)).1 hb
  refine h.setRow hx hf fr ⟨hF.1, hF.2.1, hF.2.2.1, by simpa using hP, ?_⟩
  exact hF.2.2.2.2.fr (((Fr.refl (fun b => b = cg) wr).setCell ⟨cg, co + n * 2, none⟩ (.inr rfl) _).setCell ⟨cg, co + n * 2 + 1, none⟩ (.inr rfl) _) hne
/-- Where an instruction lies. -/
theorem OP.instr {B : Nat} {p : Pg} {xs : List Fv} {cv fv : Value} {wr : World} (h : OP B p xs cv fv wr) {k n : Nat} {f : Fc} {x : Fv} (hx : xs[k]? = some x) (hf : p.funcs[k]? = some f) (hn : n < f.code.length) : ∃ cg co ccap a b, x.cv = .slice (some ⟨cg, co, none⟩) f.code.length ccap ∧ cg < wr.heap.size ∧ f.code[n]? = some (a, b) ∧ wr.cell? ⟨cg, co + n * 2, none⟩ = some (.int .i64 a) ∧ wr.cell? ⟨cg, co + n * 2 + 1, none⟩ = some (.int .i64 b) ∧ ∀ o, wr.frozen? ⟨cg, o, none⟩ = false := by
  have hF := (h.pt.rows k f x hf hx).2.2.2.1
  have hq : f.code[n]? = some (f.code[n]'hn) := List.getElem?_eq_getElem hn
  obtain ⟨b, off, cap, e, _, _, hb, hc⟩ := Rx.elem zI (Rx.of_ro hF) hq
  exact ⟨b, off, cap, _, _, e, hb, hq, by have := hc 0 _ rfl; rwa [Nat.add_zero] at this, hc 1 _ rfl, fun o => hF.free e o⟩
/-- The blocks of the code. -/
def cdB (xs : List Fv) (b : Nat) : Prop := ∃ (k : Nat) (x : Fv), xs[k]? = some x ∧ (x.cv.ownBlock = some b ∨ x.hv.ownBlock = some b)
theorem cdB.inO {cv fv : Value} {xs : List Fv} {b : Nat} (h : cdB xs b) : inO cv fv xs b := .inr (.inr h)

/-- The code with nothing in its first i places; and as it is at last. -/
def wip (c : List (Int × Int)) (i : Nat) : List (Int × Int) := List.replicate i (0, 0) ++ c.drop i
def wipe (c : List (Int × Int)) : List (Int × Int) := if 1 < c.length then ((wip c c.length).set (c.length - 2) (1, 0)).set (c.length - 1) (45, 0) else wip c c.length
theorem wip_zero (c : List (Int × Int)) : wip c 0 = c := by simp [wip]
theorem wip_length {c : List (Int × Int)} {i : Nat} (h : i ≤ c.length) : (wip c i).length = c.length := by simp [wip]; omega
theorem wip_set {c : List (Int × Int)} {i : Nat} (h : i < c.length) : (wip c i).set i (0, 0) = wip c (i + 1) := by
  unfold wip
  rw [List.set_append_right _ _ (by simp), List.length_replicate, Nat.sub_self, List.drop_eq_getElem_cons h, List.set_cons_zero, List.replicate_succ', List.append_assoc]
  rfl
theorem wipe_length (c : List (Int × Int)) : (wipe c).length = c.length := by
  unfold wipe
  split
  · rw [List.length_set, List.length_set, wip_length (Nat.le_refl _)]
  · exact wip_length (Nat.le_refl _)
theorem wipe_mem {c : List (Int × Int)} {q : Int × Int} (h : q ∈ wipe c) : I64 q.2 := by
  have h0 : q.2 = 0 := by
    unfold wipe at h
    split at h
    · rcases List.mem_or_eq_of_mem_set h with h | h
      · rcases List.mem_or_eq_of_mem_set h with h | h
        · simp [wip] at h; rw [h.2]
        · rw [h]
      · rw [h]
    · simp [wip] at h; rw [h.2]
  rw [h0]; unfold I64; omega
def wpF (f : Fc) : Fc := { f with code := wipe f.code }
/-- The first k functions are written over. -/
def wpL (l : List Fc) (k : Nat) : List Fc := (l.take k).map wpF ++ l.drop k
theorem wpL_zero (l : List Fc) : wpL l 0 = l := by simp [wpL]
theorem wpL_length (l : List Fc) (k : Nat) : (wpL l k).length = l.length := by simp [wpL]; omega
theorem wpL_at {l : List Fc} {k : Nat} {f : Fc} (h : l[k]? = some f) : (wpL l k)[k]? = some f := by
  have hk := (List.getElem?_eq_some_iff.1 h).1
  unfold wpL
  rw [List.getElem?_append_right (by simp; omega), List.length_map, List.length_take, Nat.min_eq_left (by omega), Nat.sub_self, List.getElem?_drop]
  exact h
theorem wpL_set {l : List Fc} {k : Nat} {f : Fc} (h : l[k]? = some f) : (wpL l k).set k (wpF f) = wpL l (k + 1) := by
  obtain ⟨hk, e⟩ := List.getElem?_eq_some_iff.1 h
  unfold wpL
  rw [List.set_append_right _ _ (by simp; omega), List.length_map, List.length_take, Nat.min_eq_left (by omega), Nat.sub_self, List.drop_eq_getElem_cons hk, List.set_cons_zero, List.take_add_one, h]
  simp
theorem wpL_mem {l : List Fc} {k i : Nat} {g : Fc} (h : (wpL l k)[i]? = some g) : ∃ f, l[i]? = some f ∧ (g = f ∨ g = wpF f) := by
  unfold wpL at h
  by_cases q : i < k
  · by_cases q2 : i < l.length
    · rw [List.getElem?_append_left (by simp; omega), List.getElem?_map, List.getElem?_take, if_pos q, List.getElem?_eq_getElem q2] at h
      simp at h
      exact ⟨_, List.getElem?_eq_getElem q2, .inr h.symm⟩
    · rw [List.getElem?_append_right (by simp; omega), List.getElem?_eq_none (by simp; omega)] at h
      cases h
  · by_cases q2 : i < l.length
    · rw [List.getElem?_append_right (by simp; omega), List.length_map, List.length_take, Nat.min_eq_left (by omega), List.getElem?_drop, show k + (i - k) = i by omega, List.getElem?_eq_getElem q2] at h
      simp at h
      exact ⟨_, List.getElem?_eq_getElem q2, .inl h.symm⟩
    · rw [List.getElem?_append_right (by simp; omega), List.getElem?_eq_none (by simp; omega)] at h
      cases h

/-- No block in both. -/
def ap1 (u v : Value) : Prop := ∀ b, u.ownBlock = some b → v.ownBlock ≠ some b
def bks (vs : List Value) (b : Nat) : Prop := ∃ v ∈ vs, v.ownBlock = some b
theorem bks_bk {vs : List Value} {b : Nat} : bk vs b ↔ bks vs b := by
  constructor
  · rintro ⟨j, hj, hb⟩
    have := rw_at hj
    exact ⟨_, List.mem_of_getElem? this, hb⟩
  · rintro ⟨v, hv, hb⟩
    obtain ⟨j, hj, e⟩ := List.getElem_of_mem hv
    refine ⟨j, hj, ?_⟩
    have := rw_at hj
    rw [List.getElem?_eq_getElem hj, e] at this
    cases this
    exact hb
/-- The facts of one answer: the list of heights, the rows. -/
structure FA (B : Nat) (w : World) (hv mv : Value) (n : Nat) (vs : List Value) : Prop where
  hr : Ro w 1 hv n vs
  rv : ∀ v ∈ vs ++ [mv], ∃ l : List Int, Ro w 1 v l.length (flt enN l) ∧ l.length ≤ 100000
  ap : (vs ++ [mv]).Pairwise ap1
  lo : ∀ b, bks (vs ++ [mv]) b → B ≤ b
  hl : ∀ b, hv.ownBlock = some b → B ≤ b ∧ ¬ bks (vs ++ [mv]) b
  n1 : n ≤ 128
section
variable {B B2 : Nat} {w w' : World} {hv mv : Value} {n : Nat} {vs : List Value}
theorem FA.fr {S : Nat → Prop} (h : FA B w hv mv n vs) (f : Fr S w w') (hs : ∀ b, B ≤ b → b < w.heap.size → ¬ S b) : FA B w' hv mv n vs := by
  refine ⟨h.hr.fr f (fun b hb => hs b (h.hl b hb).1 (h.hr.lt b hb)), fun v hv' => ?_, h.ap, h.lo, h.hl, h.n1⟩
  obtain ⟨l, h1, h2⟩ := h.rv v hv'
  exact ⟨l, h1.fr f (fun b hb => hs b (h.lo b ⟨v, hv', hb⟩) (h1.lt b hb)), h2⟩
theorem FA.keep (h : FA B w hv mv n vs) (f : Below w.heap.size w w') : FA B w' hv mv n vs := h.fr (S := fun _ => False) (Fr.of_below f) (fun _ _ _ e => e)
theorem FA.lt (h : FA B w hv mv n vs) {b : Nat} (hb : bks (vs ++ [mv]) b) : b < w.heap.size := by
  obtain ⟨v, hv', hb⟩ := hb
  obtain ⟨l, h1, h2⟩ := h.rv v hv'
  exact h1.lt b hb
theorem FA.slices (h : FA B w hv mv n vs) {i : Nat} {u : Value} (hi : vs[i]? = some u) : ∃ a n c, u = .slice a n c := by
  obtain ⟨l, h1, _⟩ := h.rv u (List.mem_append_left _ (List.mem_of_getElem? hi))
  obtain ⟨a, cap, e, _⟩ := h1.shape
  exact ⟨a, _, cap, e⟩
end
theorem FcA.fa {B : Nat} {w : World} {hv mv : Value} {Ls : List (List Int)} (h : FcA B w hv mv Ls) (hn : Ls.length ≤ 128) (hl : ∀ l ∈ Ls, l.length ≤ 100000) : ∃ vs, FA B w hv mv Ls.length vs := by
  obtain ⟨vs, ⟨a1, a2, a3, a4, a5⟩, b1, b2, b3⟩ := h
  have hvl := a1.1
  have hv1 : ∀ {i : Nat} {u : Value}, vs[i]? = some u → ∃ l, Ls[i]? = some l ∧ Ro w 1 u l.length (flt enN l) ∧ (∀ k, u.ownBlock = some k → B ≤ k) ∧ l.length ≤ 100000 := fun {i u} hi => by
    have hi2 := (List.getElem?_eq_some_iff.1 hi).1
    have hL : Ls[i]? = some (Ls[i]'(by omega)) := List.getElem?_eq_getElem (by omega)
    obtain ⟨r1, r2⟩ := a2 i _ u hL hi
    exact ⟨_, hL, r1, r2, hl _ (List.getElem_mem _)⟩
  have hmem : ∀ {u : Value}, u ∈ vs → ∃ i, vs[i]? = some u := fun {u} hu => by
    obtain ⟨i, hi, e⟩ := List.getElem_of_mem hu
    exact ⟨i, by rw [List.getElem?_eq_getElem hi, e]⟩
  refine ⟨vs, a1, fun v hv' => ?_, ?_, fun b hb => ?_, fun b hb => ⟨a4 b hb, fun q => ?_⟩, hn⟩
  · rcases List.mem_append.1 hv' with q | q
    · obtain ⟨i, hi⟩ := hmem q
      obtain ⟨l, _, r1, _, r3⟩ := hv1 hi
      exact ⟨l, r1, r3⟩
    · rw [List.mem_singleton] at q
      subst q
      exact ⟨Ls.map mxl, by rw [List.length_map]; exact a3, by rw [List.length_map]; omega⟩
  · rw [List.pairwise_append]
    refine ⟨?_, List.pairwise_singleton _ _, fun u hu v hv' b hb => ?_⟩
    · rw [List.pairwise_iff_getElem]
      intro i j hi hj hij b hb hb2
      exact b1 i j _ _ b (by omega) (List.getElem?_eq_getElem hi) (List.getElem?_eq_getElem hj) hb hb2
    · rw [List.mem_singleton] at hv'
      subst hv'
      obtain ⟨i, hi⟩ := hmem hu
      exact (b2 i u b hi hb).2
  · obtain ⟨v, hv', hb⟩ := hb
    rcases List.mem_append.1 hv' with q | q
    · obtain ⟨i, hi⟩ := hmem q
      obtain ⟨l, _, _, r2, _⟩ := hv1 hi
      exact r2 b hb
    · rw [List.mem_singleton] at q
      subst q
      exact a5 b hb
  · obtain ⟨v, hv', hb2⟩ := q
    rcases List.mem_append.1 hv' with q | q
    · obtain ⟨i, hi⟩ := hmem q
      exact (b2 i v b hi hb2).1 hb
    · rw [List.mem_singleton] at q
      subst q
      exact b3 b hb hb2
theorem FA.nil (B : Nat) (w : World) : FA B w (.slice none 0 0) (.slice none 0 0) 0 [] :=
  ⟨Ro.nil _ _, fun v hv => by rw [List.nil_append, List.mem_singleton] at hv; subst hv; exact ⟨[], Ro.nil _ _, by simp⟩, List.pairwise_singleton _ _, fun b hb => by obtain ⟨v, hv, hb⟩ := hb; rw [List.nil_append, List.mem_singleton] at hv; subst hv; simp [Value.ownBlock] at hb, fun b hb => by simp [Value.ownBlock] at hb, by omega⟩

/-- The length of a slice. -/
def slN : Value → Nat
  | .slice _ n _ => n
  | _ => 0
/-- All rows together. -/
structure Rs (w : World) (vs : List Value) : Prop where
  rv : ∀ v ∈ vs, ∃ l : List Int, Ro w 1 v l.length (flt enN l) ∧ l.length ≤ 100000
  ap : vs.Pairwise ap1
theorem Rs.join {w : World} {l1 l2 : List Value} (h1 : Rs w l1) (h2 : Rs w l2) (h : ∀ b, bks l1 b → ¬ bks l2 b) : Rs w (l1 ++ l2) :=
  ⟨fun v hv => (List.mem_append.1 hv).elim (h1.rv v) (h2.rv v), List.pairwise_append.2 ⟨h1.ap, h2.ap, fun u hu v hv b hb hb2 => h b ⟨u, hu, hb⟩ ⟨v, hv, hb2⟩⟩⟩
theorem Rs.lt {w : World} {vs : List Value} (h : Rs w vs) {b : Nat} (hb : bk vs b) : b < w.heap.size := by
  obtain ⟨v, hv, hb⟩ := bks_bk.1 hb
  obtain ⟨l, h1, _⟩ := h.rv v hv
  exact h1.lt b hb
theorem Rs.gc {w : World} {vs : List Value} (h : Rs w vs) : GC w vs := by
  refine ⟨fun b hb => h.lt hb, fun j j' b hj hj' hn hb hb2 => ?_⟩
  have hp := List.pairwise_iff_getElem.1 h.ap
  have e1 := rw_at hj
  have e2 := rw_at hj'
  rw [List.getElem?_eq_getElem hj] at e1
  rw [List.getElem?_eq_getElem hj'] at e2
  rw [← Option.some.inj e1] at hb
  rw [← Option.some.inj e2] at hb2
  rcases Nat.lt_or_ge j j' with q | q
  · exact hp j j' hj hj' q b hb hb2
  · exact hp j' j hj' hj (by omega) b hb2 hb
theorem Rs.row {w : World} {vs : List Value} (h : Rs w vs) {j : Nat} (hj : j < vs.length) : ∃ l : List Int, Ro w 1 (rw_ vs j) l.length (flt enN l) ∧ l.length ≤ 100000 ∧ slN (rw_ vs j) = l.length := by
  obtain ⟨l, h1, h2⟩ := h.rv _ (List.mem_of_getElem? (rw_at hj))
  obtain ⟨a, cap, e, _⟩ := h1.shape
  exact ⟨l, h1, h2, by rw [e]; rfl⟩
theorem Rs.mk0 {w : World} {vs : List Value} (h : Rs w vs) : MK w vs (fun j => slN (rw_ vs j)) 0 0 w := by
  refine ⟨fun j hj => ?_, Fr.refl _ _⟩
  obtain ⟨l, h1, h2, h3⟩ := h.row hj
  exact ⟨l, h3.symm, by rw [h3]; exact h1, fun q => by omega, fun _ t ht => by omega⟩
theorem Rs.ns {w : World} {vs : List Value} (h : Rs w vs) (k : Nat) : slN (rw_ vs k) ≤ 100000 := by
  by_cases hk : k < vs.length
  · obtain ⟨l, h1, h2, h3⟩ := h.row hk
    rw [h3]; exact h2
  · rw [rw_, List.getD_eq_getElem?_getD, List.getElem?_eq_none (by omega)]
    simp [slN]
end Go.Proofs.YtbkfnmkfbdoadaaGreatDoor
