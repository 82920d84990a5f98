/-
  Callee: the program's.
-/
import Derived.Test.YtfoanikkngmeiaaCal
namespace Go.Proofs.Ytfoanikkngmeiaa
open Go.RowKit
set_option linter.unusedVariables false
set_option linter.unusedSimpArgs false
set_option maxRecDepth 100000 in
set_option maxHeartbeats 6400000 in
theorem callee_any {w : World} {h : Nat} {bud sp : Int} {ov pv : Value} {ds : List hp.OD} {os : List Ob} {p : Pg} {x y : Int} (H : hp.Hp w h bud sp ov ds) (hag : ds.map (·.ob) = os) (hS : ∀ d ∈ ds, d.its.length ≤ 4096 ∧ d.keys.length ≤ 4096) (hP : PgV w pv p) (hN : p.funcs.length ≤ 1048576) (hPr : ∀ f ∈ p.funcs, f.params < 9223372036854775808) (hL : ∀ k l, cld os (x, y) = some (k, l) → l.length ≤ 1048576) (n : Int) :
    Calls Try.prog 10 #[pv, .pointer (some ⟨h, 0, none⟩), .agg #[.int .i64 x, .int .i64 y], .int .i64 n] w (CaP w (clR p os (x, y) n)) := by
  have HCD : Hid (∀ W, Below w.heap.size w W → Calls Try.prog 27 #[.pointer (some ⟨h, 0, none⟩), .agg #[.int .i64 x, .int .i64 y]] W (CdP W (cld os (x, y)))) := hide (fun W b => called_any (H.below b) hag hS x y)
  have HFU : Hid (∀ W k, Below w.heap.size w W → Calls Try.prog 28 #[pv, .int .i64 k] W (FuP W (fnAt p k))) := hide (fun W k b => function_any (hP.below b (Nat.le_refl _)) k hN)
  have HPR := hide hPr
  have HLL := hide hL
  obtain ⟨cv, fv, rfl, hc, hf⟩ := hP
  obtain ⟨ca, cc, rfl⟩ : ∃ a c, cv = .slice a p.consts.length c := by obtain ⟨_, a, c, e, _⟩ := hc; exact ⟨a, c, e⟩
  obtain ⟨a, cap, rfl, hlc, hcm, hat⟩ := hf.at
  obtain ⟨NF, hNF⟩ : ∃ n, Hid (p.funcs.length = n) := ⟨_, hide rfl⟩
  obtain ⟨NC, hNC⟩ : ∃ n, Hid (p.consts.length = n) := ⟨_, hide rfl⟩
  rw [unhide hNC, unhide hNF] at HFU ⊢
  have HB2 := hide (bl_two w)
  have HK2 := hide (blk2 w)
  clear H hS hc hf hat hag hPr hL hlc hcm
  go_enter Try.func10, Try.ntmps10
  go_wp2_with fail
  refine (unhide HCD _ (unhide HB2 _ _)).mono ?_
  rintro e w1 (⟨hnone, k, v0, rfl, b1⟩ | ⟨k, l, va, vc, hsome, rfl, g1⟩)
  · have hr : clR p os (x, y) n = (0, [], 1) := by unfold clR; rw [hnone]
    have HB := hide (bl_past (unhide HB2 _ _) b1)
    clear b1 HCD HFU HB2 HK2
    go_wp2_with fail
    go_ret3
    rw [hr]
    exact ⟨none, 0, rfl, by simpa [flt] using Ro.nil _ 2, unhide HB, fun k hk => by simp [Value.ownBlock] at hk⟩
  · have HB := hide (bl_past (unhide HB2 _ _) g1.2.1)
    have hp0 := (blk_cells ((g1.2.1.block _ (by simp only [World.size_alloc]; omega)).trans (unhide HK2 _ _).1)).1
    have hp0l : w.heap.size < w1.heap.size := (unhide HK2 _ _).1 |> fun q => Nat.lt_of_lt_of_le (Array.getElem?_eq_some_iff.1 q).1 g1.2.1.size
    have c0 : w1.cell? ⟨w.heap.size, 0, none⟩ = some (.slice ca NC cc) := (hp0 0).trans rfl
    have c1 : w1.cell? ⟨w.heap.size, 1, none⟩ = some (.slice a NF cap) := (hp0 1).trans rfl
    have HGE : Hid (∀ k, (Value.slice va l.length vc).ownBlock = some k → w.heap.size ≤ k) := hide (fun k hk => Nat.le_trans (unhide HB2 _ _).size (g1.2.2 k hk))
    have HRO := hide g1.1
    have HSM := hide hsome
    have hll := unhide HLL k l hsome
    clear hp0 g1 HCD HB2 HK2 hsome
    obtain ⟨LL, hLL⟩ : ∃ n, Hid (l.length = n) := ⟨_, hide rfl⟩
    rw [unhide hLL] at hll HRO HGE ⊢
    go_wp2_with fail
    refine (unhide HFU w1 k (unhide HB)).mono ?_
    rintro e w2 ⟨q, rfl, hq, b2⟩
    have HB2 := hide (bl_past (unhide HB) b2)
    have HR2 : Hid (∀ O, Gx w 2 enI l (.slice va LL vc) (w2.alloc O)) := hide (fun O => ⟨by
      have := (unhide HRO).fr ((Fr.of_below (S := fun _ => False) b2).alloc O) (fun _ _ e => e)
      rw [unhide hLL]
      exact this, (unhide HB2).alloc (unhide HB2).size _, unhide HGE⟩)
    have HB3 : Hid (∀ O, Below w.heap.size w (w2.alloc O)) := hide (fun O => (unhide HB2).alloc (unhide HB2).size _)
    cases hk : fnAt p k with
    | none =>
      have hr : clR p os (x, y) n = (0, [], 1) := by unfold clR; rw [unhide HSM]; simp only; rw [hk]
      rw [hk] at hq
      obtain ⟨q1, q2, q3, q4, q5⟩ := q
      have hz : q2 = 0 := hq.2.1
      obtain ⟨_, xa, xc, ex, _⟩ := hq.2.2.2.1
      obtain ⟨_, ya, yc, ey, _⟩ := hq.2.2.2.2
      simp only at ex ey
      subst ex ey
      clear hq b2 HRO
      go_wp2_with fail
      go_ret3
      rw [hr]
      exact ⟨none, 0, rfl, by simpa [flt] using Ro.nil _ 2, unhide HB3 _, fun k hk => by simp [Value.ownBlock] at hk⟩
    | some f =>
      rw [hk] at hq
      obtain ⟨q1, q2, q3, q4, q5⟩ := q
      have hz : q2 = f.params := hq.2.1
      obtain ⟨_, xa, xc, ex, _⟩ := hq.2.2.2.1
      obtain ⟨_, ya, yc, ey, _⟩ := hq.2.2.2.2
      simp only at ex ey hz
      subst ex ey hz
      have hfp : f.params < 9223372036854775808 := unhide HPR f (by
        obtain ⟨_, _, hm⟩ := fnAt_some hk
        exact List.mem_of_getElem? hm)
      have hcr : clR p os (x, y) n = if f.params < (LL : Int) ∨ f.params - (LL : Int) ≠ n then (0, [], 5) else (k, l, 0) := by unfold clR; rw [unhide HSM]; simp only; rw [hk]; simp only; rw [unhide hLL]
      have HCR := hide hcr
      obtain ⟨fp, hfe⟩ : ∃ z, Hid (f.params = z) := ⟨_, hide rfl⟩
      rw [unhide hfe] at HCR hfp ⊢
      clear hq b2 HRO hcr
      by_cases h1 : fp < (LL : Int)
      · have HR : Hid (clR p os (x, y) n = (0, [], 5)) := hide (by rw [unhide HCR, if_pos (.inl h1)])
        clear HCR
        go_wp2_with fail
        go_ret3
        rw [unhide HR]
        exact ⟨none, 0, rfl, by simpa [flt] using Ro.nil _ 2, unhide HB3 _, fun k hk => by simp [Value.ownBlock] at hk⟩
      · have hw : IntKind.i64.wrap (fp - (LL : Int)) = fp - (LL : Int) := by rw [IntKind.wrap_i64]; omega
        by_cases h2 : fp - (LL : Int) = n
        · have HR : Hid (clR p os (x, y) n = (k, l, 0)) := hide (by rw [unhide HCR, if_neg (by omega)])
          have d2 : (fp - (LL : Int) != n) = false := by simpa using h2
          clear HCR
          go_wp2_with fail
          go_ret3
          rw [unhide HR]
          obtain rfl := unhide hLL
          exact ⟨va, vc, rfl, unhide HR2 _⟩
        · have HR : Hid (clR p os (x, y) n = (0, [], 5)) := hide (by rw [unhide HCR, if_pos (.inr h2)])
          have d2 : (fp - (LL : Int) != n) = true := by simpa using h2
          clear HCR
          go_wp2_with fail
          go_ret3
          rw [unhide HR]
          exact ⟨none, 0, rfl, by simpa [flt] using Ro.nil _ 2, unhide HB3 _, fun k hk => by simp [Value.ownBlock] at hk⟩
end Go.Proofs.Ytfoanikkngmeiaa
