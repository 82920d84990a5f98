/-
  Callee: the document's.
-/
import Derived.Test.YtfoanikkngmeiaaCle
namespace Go.Proofs.Ytfoanikkngmeiaa
open Go.RowKit
set_option linter.unusedVariables false
set_option linter.unusedSimpArgs false
set_option maxRecDepth 100000 in
set_option maxHeartbeats 6400000 in
theorem dcallee_any {w : World} {pv lv : Value} {os : List Ob} {p : Pg} {x y : Int} (hO : OsV w lv os) (hON : os.length ≤ 1048576) (hS : ∀ o ∈ os, o.its.length ≤ 1048576) (hP : PgV w pv p) (hN : p.funcs.length ≤ 1048576) (hPr : ∀ f ∈ p.funcs, f.params < 9223372036854775808) (n : Int) :
    Calls Try.prog 9 #[pv, lv, .agg #[.int .i64 x, .int .i64 y], .int .i64 n] w (CaP w (clR p os (x, y) n)) := by
  have HRF : Hid (∀ W k, Below w.heap.size w W → Calls Try.prog 26 #[pv, .int .i64 k] W fun e w' => e = .returned (.bool (fnAt p k).isSome) ∧ Below W.heap.size W w') := hide (fun W k b => rfun_any (hP.below b (Nat.le_refl _)) k hN)
  have HPR := hide hPr
  have HPV : Hid (∀ W, Below w.heap.size w W → PgV W pv p) := hide (fun W b => hP.below b (Nat.le_refl _))
  obtain ⟨cv, fv, rfl, hc, hf⟩ := hP
  obtain ⟨ca, cc, rfl⟩ : ∃ a c, cv = .slice a p.consts.length c := by obtain ⟨_, a, c, e, _⟩ := hc; exact ⟨a, c, e⟩
  obtain ⟨a, cap, rfl, hlc, hcm, hat⟩ := hf.at
  obtain ⟨NF, hNF⟩ : ∃ n, Hid (p.funcs.length = n) := ⟨_, hide rfl⟩
  obtain ⟨NC, hNC⟩ : ∃ n, Hid (p.consts.length = n) := ⟨_, hide rfl⟩
  have HFN : Hid (∀ (k : Nat) (f : Fc), p.funcs[k]? = some f → ∃ b off, a = some ⟨b, off, none⟩ ∧ b < w.heap.size ∧ w.cell? ⟨b, off + k * 5 + 1, none⟩ = some (.int .i64 f.params)) := hide (fun k f hk => by
    obtain ⟨b, off, q, e1, hb, hq, hcell⟩ := hat k f hk
    refine ⟨b, off, e1, hb, ?_⟩
    rw [← hq.2.1]
    exact hcell 1 _ rfl)
  rw [unhide hNC, unhide hNF] at HRF HPV ⊢
  have HB2 := hide (bl_two w)
  have HK2 := hide (blk2 w)
  obtain ⟨oa, oc, rfl, hol, hocm⟩ := hO.shape
  have HO := hide hO
  obtain ⟨L, hL⟩ : ∃ n, Hid (os.length = n) := ⟨_, hide rfl⟩
  rw [unhide hL] at HO hON hol ⊢
  have HS := hide hS
  rw [unhide hNF] at hN
  clear hc hf hat hPr hlc hcm hO hS
  by_cases h8 : x = 8
  · subst h8
    by_cases hy : 0 ≤ y ∧ y < (L : Int)
    · obtain ⟨j, rfl⟩ : ∃ j : Nat, y = (j : Int) := ⟨y.toNat, by omega⟩
      obtain ⟨f0, hf0⟩ : ∃ f, os[j]? = some f := ⟨_, List.getElem?_eq_getElem (by rw [unhide hL]; omega)⟩
      obtain ⟨gb, go, ia, ic, ka, kc, ea, hgb, k0, k1, k2, k3, k4, k5, hx, hy2, -⟩ := (unhide HO).six hf0
      cases ea
      have hcl : cld os (8, (j : Int)) = if f0.kind = 8 then some (f0.fn, f0.its) else none := by
        unfold cld
        rw [if_neg (by show ¬ (8 : Int) = 5; decide), if_pos rfl, if_pos (by show (0 : Int) ≤ (j : Int); omega)]
        simp only [Int.toNat_natCast]
        rw [hf0]
      have HG2 : Hid (∀ o1 o2, ((w.alloc o1).alloc o2).cell? ⟨gb, go + j * 6, none⟩ = some (.int .i64 f0.kind) ∧ ((w.alloc o1).alloc o2).cell? ⟨gb, go + j * 6 + 1, none⟩ = some (.slice ia f0.its.length ic) ∧ ((w.alloc o1).alloc o2).cell? ⟨gb, go + j * 6 + 3, none⟩ = some (.int .i64 f0.fn) ∧ gb < ((w.alloc o1).alloc o2).heap.size) := hide (fun o1 o2 => ⟨((unhide HB2 o1 o2).cell (p := ⟨gb, go + j * 6, none⟩) hgb).trans k0, ((unhide HB2 o1 o2).cell (p := ⟨gb, go + j * 6 + 1, none⟩) hgb).trans k1, ((unhide HB2 o1 o2).cell (p := ⟨gb, go + j * 6 + 3, none⟩) hgb).trans k3, Nat.lt_of_lt_of_le hgb (unhide HB2 o1 o2).size⟩)
      obtain ⟨g0, g1, g3, gl⟩ := unhide HG2 (.cells #[.slice ca NC cc, .slice a NF cap] 25) (.cells #[.int .i64 8, .int .i64 (j : Int)] 28)
      have HCV : Hid (∀ W, Below w.heap.size w W → Calls Try.prog 25 #[.slice ia f0.its.length ic] W fun e w' => ∃ v', e = .returned v' ∧ Gx W 2 enI f0.its v' w') := hide (fun W b => copyV_any (hx.below b (Nat.le_refl _)) (by have := unhide HS f0 (List.mem_of_getElem? hf0); omega))
      have hil := unhide HS f0 (List.mem_of_getElem? hf0)
      have j0 : (0 : Int) ≤ (j : Int) := by omega
      have j1 : (j : Int) < (L : Int) := hy.2
      clear k0 k1 k2 k3 k4 k5 hx hy2 hf0 HG2 hgb
      by_cases hkd : f0.kind = 8
      · have dk : (f0.kind != 8) = false := by simpa using hkd
        have HSM : Hid (cld os (8, (j : Int)) = some (f0.fn, f0.its)) := hide (by rw [hcl, if_pos hkd])
        obtain ⟨ll, hll⟩ : ∃ l, Hid (f0.its = l) := ⟨_, hide rfl⟩
        obtain ⟨kk, hkk⟩ : ∃ l, Hid (f0.fn = l) := ⟨_, hide rfl⟩
        obtain ⟨LL, hLL⟩ : ∃ l, Hid (ll.length = l) := ⟨_, hide rfl⟩
        rw [unhide hll, unhide hkk] at HSM
        rw [unhide hkk] at g3
        rw [unhide hll, unhide hLL] at g1 hil
        have HCV2 : Hid (∀ W, Below w.heap.size w W → Calls Try.prog 25 #[.slice ia LL ic] W fun e w' => ∃ a c, e = .returned (.slice a LL c) ∧ Gx W 2 enI ll (.slice a LL c) w') := hide (fun W b => by
          have := unhide HCV W b
          rw [unhide hll, unhide hLL] at this
          refine this.mono ?_
          rintro e w' ⟨v', rfl, gg⟩
          obtain ⟨a, c, rfl, _⟩ := gg.1.shape
          rw [unhide hLL] at gg ⊢
          exact ⟨a, c, rfl, gg⟩)
        clear HCV hcl hkd
        go_enter Try.func9, Try.ntmps9
        go_wp2_with fail
        refine (unhide HCV2 _ (unhide HB2 _ _)).mono ?_
        rintro e W0 ⟨va, vc, rfl, gg⟩
        have HBW : Hid (Below w.heap.size w W0) := hide (bl_past (unhide HB2 _ _) gg.2.1)
        have HP0 : Hid (W0.heap[w.heap.size]? = some (.cells #[.slice ca NC cc, .slice a NF cap] 25)) := hide ((gg.2.1.block _ (by simp only [World.size_alloc]; omega)).trans (unhide HK2 _ _).1)
        have HV0 : Hid (W0.heap[w.heap.size + 1]? = some (.cells #[.int .i64 8, .int .i64 (j : Int)] 28)) := hide ((gg.2.1.block _ (by simp only [World.size_alloc]; omega)).trans (unhide HK2 _ _).2)
        have HGW : Hid (∀ W3, Below W0.heap.size W0 W3 → Gx w 2 enI ll (.slice va LL vc) W3) := hide (fun W3 b => ⟨gg.1.fr (Fr.of_below (S := fun _ => False) b) (fun _ _ e => e), bl_past (bl_past (unhide HB2 _ _) gg.2.1) b, fun k hk => Nat.le_trans (unhide HB2 _ _).size (gg.2.2 k hk)⟩)
        clear gg HCV2
        have HKB : Hid (∀ W3, Below W0.heap.size W0 W3 → W3.cell? ⟨w.heap.size, 0, none⟩ = some (.slice ca NC cc) ∧ W3.cell? ⟨w.heap.size, 1, none⟩ = some (.slice a NF cap) ∧ w.heap.size < W3.heap.size) := hide (fun W3 b => by
          obtain ⟨q, _, ql⟩ := blk_cells ((b.block _ (Array.getElem?_eq_some_iff.1 (unhide HP0)).1).trans (unhide HP0))
          exact ⟨(q 0).trans rfl, (q 1).trans rfl, ql⟩)
        obtain ⟨c0, c1, cl⟩ := unhide HKB W0 (Below.refl _ _)
        clear g0 g1 g3 gl
        go_wp2_with fail
        clear c0 c1 cl
        refine (unhide HRF _ _ (unhide HBW)).mono ?_
        rintro e w3 ⟨rfl, b3⟩
        have HB3 : Hid (Below w.heap.size w w3) := hide (bl_past (unhide HBW) b3)
        obtain ⟨c0, c1, cl⟩ := unhide HKB w3 b3
        have HGX := hide (unhide HGW w3 b3)
        clear b3
        cases hk : fnAt p kk with
        | none =>
          have HR : Hid (clR p os (8, (j : Int)) n = (0, [], 1)) := hide (by unfold clR; rw [unhide HSM]; simp only; rw [hk])
          simp only [Option.isSome]
          go_wp2_with fail
          go_ret3
          rw [unhide HR]
          exact ⟨none, 0, rfl, by simpa [flt] using Ro.nil _ 2, unhide HB3, fun k hk => by simp [Value.ownBlock] at hk⟩
        | some f =>
          obtain ⟨k0, k1, k2⟩ := fnAt_some hk
          obtain ⟨m, rfl⟩ : ∃ m : Nat, kk = (m : Int) := ⟨kk.toNat, by omega⟩
          rw [Int.toNat_natCast] at k2
          obtain ⟨fb, fo, efa, hfb, hfc⟩ := unhide HFN m f k2
          subst efa
          have hf3 : w3.cell? ⟨fb, fo + m * 5 + 1, none⟩ = some (.int .i64 f.params) := ((unhide HB3).cell (p := ⟨fb, fo + m * 5 + 1, none⟩) hfb).trans hfc
          have hfb3 : fb < w3.heap.size := Nat.lt_of_lt_of_le hfb (unhide HB3).size
          have hfp : f.params < 9223372036854775808 := unhide HPR f (List.mem_of_getElem? k2)
          have hcr : clR p os (8, (j : Int)) n = if f.params < (LL : Int) ∨ f.params - (LL : Int) ≠ n then (0, [], 5) else ((m : Int), ll, 0) := by unfold clR; rw [unhide HSM]; simp only; rw [hk]; simp only; rw [unhide hLL]
          have HCR := hide hcr
          obtain ⟨fp, hfe⟩ : ∃ z, Hid (f.params = z) := ⟨_, hide rfl⟩
          rw [unhide hfe] at HCR hfp hf3
          have m1 : (m : Int) < (NF : Int) := by have := unhide hNF; omega
          simp only [Option.isSome]
          clear hcr hfc k2 k1 hfb
          by_cases hn0 : n < 0
          · have HR : Hid (clR p os (8, (j : Int)) n = (0, [], 5)) := hide (by rw [unhide HCR, if_pos (by omega)])
            clear HCR
            go_wp2_with fail
            go_ret3
            rw [unhide HR]
            exact ⟨none, 0, rfl, by simpa [flt] using Ro.nil _ 2, unhide HB3, fun k hk => by simp [Value.ownBlock] at hk⟩
          · by_cases h1 : fp < (LL : Int)
            · have HR : Hid (clR p os (8, (j : Int)) n = (0, [], 5)) := hide (by rw [unhide HCR, if_pos (.inl h1)])
              clear HCR
              go_wp2_with fail
              go_ret3
              rw [unhide HR]
              exact ⟨none, 0, rfl, by simpa [flt] using Ro.nil _ 2, unhide HB3, fun k hk => by simp [Value.ownBlock] at hk⟩
            · have hw : IntKind.i64.wrap (fp - (LL : Int)) = fp - (LL : Int) := by rw [IntKind.wrap_i64]; omega
              by_cases h2 : fp - (LL : Int) = n
              · have HR : Hid (clR p os (8, (j : Int)) n = ((m : Int), ll, 0)) := hide (by rw [unhide HCR, if_neg (by omega)])
                have d2 : (fp - (LL : Int) != n) = false := by simpa using h2
                clear HCR
                go_wp2_with fail
                go_ret3
                rw [unhide HR]
                obtain rfl := unhide hLL
                exact ⟨_, _, rfl, unhide HGX⟩
              · have d2 : (fp - (LL : Int) != n) = true := by simpa using h2
                have HR : Hid (clR p os (8, (j : Int)) n = (0, [], 5)) := hide (by rw [unhide HCR, if_pos (.inr h2)])
                clear HCR
                go_wp2_with fail
                go_ret3
                rw [unhide HR]
                exact ⟨none, 0, rfl, by simpa [flt] using Ro.nil _ 2, unhide HB3, fun k hk => by simp [Value.ownBlock] at hk⟩
      · have dk : (f0.kind != 8) = true := by simpa using hkd
        rw [if_neg hkd] at hcl
        have HR : Hid (clR p os (8, (j : Int)) n = (0, [], 1)) := hide (by unfold clR; rw [hcl])
        go_enter Try.func9, Try.ntmps9
        go_wp2_with fail
        go_ret3
        rw [unhide HR]
        exact ⟨none, 0, rfl, by simpa [flt] using Ro.nil _ 2, unhide HB2 _ _, fun k hk => by simp [Value.ownBlock] at hk⟩
    · have hcl : cld os (8, y) = none := by
        unfold cld
        rw [if_neg (by show ¬ (8 : Int) = 5; decide), if_pos rfl]
        by_cases y0 : (0 : Int) ≤ y
        · rw [if_pos y0]
          simp only
          rw [List.getElem?_eq_none (by rw [unhide hL]; omega)]
        · rw [if_neg y0]
      by_cases y0 : y < 0
      · have HR : Hid (clR p os (8, y) n = (0, [], 1)) := hide (by unfold clR; rw [hcl])
        go_enter Try.func9, Try.ntmps9
        go_wp2_with fail
        go_ret3
        rw [unhide HR]
        exact ⟨none, 0, rfl, by simpa [flt] using Ro.nil _ 2, unhide HB2 _ _, fun k hk => by simp [Value.ownBlock] at hk⟩
      · have y1 : (L : Int) ≤ y := by omega
        have HR : Hid (clR p os (8, y) n = (0, [], 1)) := hide (by unfold clR; rw [hcl])
        go_enter Try.func9, Try.ntmps9
        go_wp2_with fail
        go_ret3
        rw [unhide HR]
        exact ⟨none, 0, rfl, by simpa [flt] using Ro.nil _ 2, unhide HB2 _ _, fun k hk => by simp [Value.ownBlock] at hk⟩
  · have d8 : (x == 8) = false := by simpa using h8
    by_cases h5 : x = 5
    · subst h5
      have HSM : Hid (cld os (5, y) = some (y, [])) := hide (by unfold cld; rw [if_pos rfl])
      obtain ⟨kk, hkk⟩ : ∃ l, Hid (y = l) := ⟨_, hide rfl⟩
      obtain rfl := unhide hkk
      obtain ⟨W0, hW0⟩ : ∃ W, Hid ((w.alloc (.cells #[.slice ca NC cc, .slice a NF cap] 25)).alloc (.cells #[.int .i64 5, .int .i64 y] 28) = W) := ⟨_, hide rfl⟩
      have HBW : Hid (Below w.heap.size w W0) := hide (by rw [← unhide hW0]; exact unhide HB2 _ _)
      have HP0 : Hid (W0.heap[w.heap.size]? = some (.cells #[.slice ca NC cc, .slice a NF cap] 25)) := hide (by rw [← unhide hW0]; exact (unhide HK2 _ _).1)
      have HGW : Hid (∀ W3, Below W0.heap.size W0 W3 → Gx w 2 enI [] (.slice none 0 0) W3) := hide (fun W3 b => ⟨by simpa [flt] using Ro.nil _ 2, bl_past (unhide HBW) b, fun k hk => by simp [Value.ownBlock] at hk⟩)
      have HKB : Hid (∀ W3, Below W0.heap.size W0 W3 → W3.cell? ⟨w.heap.size, 0, none⟩ = some (.slice ca NC cc) ∧ W3.cell? ⟨w.heap.size, 1, none⟩ = some (.slice a NF cap) ∧ w.heap.size < W3.heap.size) := hide (fun W3 b => by
        obtain ⟨q, _, ql⟩ := blk_cells ((b.block _ (Array.getElem?_eq_some_iff.1 (unhide HP0)).1).trans (unhide HP0))
        exact ⟨(q 0).trans rfl, (q 1).trans rfl, ql⟩)
      go_enter Try.func9, Try.ntmps9
      go_wp2_with fail
      rw [unhide hW0]
      refine (unhide HRF _ _ (unhide HBW)).mono ?_
      rintro e w3 ⟨rfl, b3⟩
      have HB3 : Hid (Below w.heap.size w w3) := hide (bl_past (unhide HBW) b3)
      obtain ⟨c0, c1, cl⟩ := unhide HKB w3 b3
      have HGX := hide (unhide HGW w3 b3)
      clear b3
      cases hk : fnAt p y with
      | none =>
        have HR : Hid (clR p os (5, y) n = (0, [], 1)) := hide (by unfold clR; rw [unhide HSM]; simp only; rw [hk])
        simp only [Option.isSome]
        go_wp2_with fail
        go_ret3
        rw [unhide HR]
        exact ⟨none, 0, rfl, by simpa [flt] using Ro.nil _ 2, unhide HB3, fun k hk => by simp [Value.ownBlock] at hk⟩
      | some f =>
        obtain ⟨k0, k1, k2⟩ := fnAt_some hk
        obtain ⟨m, rfl⟩ : ∃ m : Nat, y = (m : Int) := ⟨y.toNat, by omega⟩
        rw [Int.toNat_natCast] at k2
        obtain ⟨fb, fo, efa, hfb, hfc⟩ := unhide HFN m f k2
        subst efa
        have hf3 : w3.cell? ⟨fb, fo + m * 5 + 1, none⟩ = some (.int .i64 f.params) := ((unhide HB3).cell (p := ⟨fb, fo + m * 5 + 1, none⟩) hfb).trans hfc
        have hfb3 : fb < w3.heap.size := Nat.lt_of_lt_of_le hfb (unhide HB3).size
        have hfp : f.params < 9223372036854775808 := unhide HPR f (List.mem_of_getElem? k2)
        have hcr : clR p os (5, (m : Int)) n = if f.params < 0 ∨ f.params ≠ n then (0, [], 5) else ((m : Int), [], 0) := by unfold clR; rw [unhide HSM]; simp only; rw [hk]; simp
        have HCR := hide hcr
        obtain ⟨fp, hfe⟩ : ∃ z, Hid (f.params = z) := ⟨_, hide rfl⟩
        rw [unhide hfe] at HCR hfp hf3
        have m1 : (m : Int) < (NF : Int) := by have := unhide hNF; omega
        simp only [Option.isSome]
        clear hcr hfc k2 k1 hfb
        by_cases hn0 : n < 0
        · have HR : Hid (clR p os (5, (m : Int)) n = (0, [], 5)) := hide (by rw [unhide HCR, if_pos (by omega)])
          clear HCR
          go_wp2_with fail
          go_ret3
          rw [unhide HR]
          exact ⟨none, 0, rfl, by simpa [flt] using Ro.nil _ 2, unhide HB3, fun k hk => by simp [Value.ownBlock] at hk⟩
        · by_cases h1 : fp < 0
          · have HR : Hid (clR p os (5, (m : Int)) n = (0, [], 5)) := hide (by rw [unhide HCR, if_pos (.inl h1)])
            clear HCR
            go_wp2_with fail
            go_ret3
            rw [unhide HR]
            exact ⟨none, 0, rfl, by simpa [flt] using Ro.nil _ 2, unhide HB3, fun k hk => by simp [Value.ownBlock] at hk⟩
          · have hw : IntKind.i64.wrap fp = fp := by rw [IntKind.wrap_i64]; omega
            by_cases h2 : fp = n
            · have HR : Hid (clR p os (5, (m : Int)) n = ((m : Int), [], 0)) := hide (by rw [unhide HCR, if_neg (by omega)])
              have d2 : (fp != n) = false := by simpa using h2
              clear HCR
              go_wp2_with fail
              go_ret3
              rw [unhide HR]
              exact ⟨none, 0, rfl, unhide HGX⟩
            · have d2 : (fp != n) = true := by simpa using h2
              have HR : Hid (clR p os (5, (m : Int)) n = (0, [], 5)) := hide (by rw [unhide HCR, if_pos (.inr h2)])
              clear HCR
              go_wp2_with fail
              go_ret3
              rw [unhide HR]
              exact ⟨none, 0, rfl, by simpa [flt] using Ro.nil _ 2, unhide HB3, fun k hk => by simp [Value.ownBlock] at hk⟩
    · have hcl : cld os (x, y) = none := by unfold cld; rw [if_neg h5, if_neg h8]
      have d5 : (x != 5) = true := by simpa using h5
      have HR : Hid (clR p os (x, y) n = (0, [], 1)) := hide (by unfold clR; rw [hcl])
      go_enter Try.func9, Try.ntmps9
      go_wp2_with fail
      go_ret3
      rw [unhide HR]
      exact ⟨none, 0, rfl, by simpa [flt] using Ro.nil _ 2, unhide HB2 _ _, fun k hk => by simp [Value.ownBlock] at hk⟩
end Go.Proofs.Ytfoanikkngmeiaa
