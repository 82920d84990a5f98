/-
  The words behind the tail.
-/
import Derived.Test.YtlkcjimkgebeiaaDoorSmall
namespace Go.Proofs.YtlkcjimkgebeiaaDoor
open Go.RowKit

theorem Seg.sub {w : World} {b o : Nat} {k : IntKind} {xs : List Int} (h : Seg w b o k xs) (i n : Nat) (hn : i + n ≤ xs.length) : Seg w b (o + i) k ((xs.drop i).take n) := by
  have hl : ((xs.drop i).take n).length = n := by rw [List.length_take, List.length_drop]; omega
  refine ⟨fun j v hv => ?_, fun j hj => ?_⟩
  · rw [List.getElem?_map] at hv
    have hj : j < n := by
      have := Option.map_eq_some_iff.1 hv
      obtain ⟨x, hx, _⟩ := this
      have := (List.getElem?_eq_some_iff.1 hx).1
      omega
    rw [List.getElem?_take, if_pos hj, List.getElem?_drop, ← List.getElem?_map] at hv
    rw [Nat.add_assoc]
    exact h.1 (i + j) v hv
  · rw [hl] at hj
    rw [Nat.add_assoc]
    exact h.2 (i + j) (by omega)
theorem wpList_build {P : Program} {ops : Array Oper} {rest : List Oper} {op : Oper} {a : Act} {w : World} {Q : Exit → Act → World → Prop} (hgd : op.guard = none) (t : TypeId) (ps : Array (Nat × Operand)) (ho : op.op = .build t ps)
    (v : Value) (hb : (Instr.build t (ps.map fun (i, x) => (i, a.eval x))).run P w = .ok v w)
    (h : wpList P ops Q rest (a.put op.dst v) w) : wpList P ops Q (op :: rest) a w := by
  refine wpList_plain hgd fun K hK => ?_
  unfold Oper.wp execOp
  simp only [ho, Sem.run_bind, hb, Result.andThen_ok, Sem.run_pure]
  exact hK _ _ h
theorem build49m (f : Nat × Operand → Nat × Value) (w : World) : (Instr.build 49 ((#[] : Array (Nat × Operand)).map f)).run Tryd.prog w = .ok (.agg (Ar .u8 z64)) w := by
  have hz := (zero_of_info (P := Tryd.prog) (t := 49) (v := .agg (Ar .u8 z64)) (n := 64) (by kernel_rfl)).1
  simp [Instr.build, hz, Value.cells, Instr.fill]
theorem build49 (w : World) : (Instr.build 49 #[]).run Tryd.prog w = .ok (.agg (Ar .u8 z64)) w := by
  have hz := (zero_of_info (P := Tryd.prog) (t := 49) (v := .agg (Ar .u8 z64)) (n := 64) (by kernel_rfl)).1
  simp [Instr.build, hz, Value.cells, Instr.fill]
theorem neq49 (xs ys : List Int) (hx : xs.length = 64) (hy : ys.length = 64) (w : World) : (Op.equalIn 10000 49 (.agg (Ar .u8 xs)) (.agg (Ar .u8 ys))).run Tryd.prog w = .ok (xs == ys) w := by
  obtain ⟨i0, hi0, _⟩ := info_parts Tryd.info5
  exact run_equal_ar (P := Tryd.prog) w 9998 49 5 64 .u8 .u8 i0 Tryd.underlying49 hi0 (by kernel_rfl) Tryd.underlying5 (Tryd.isAgg5 w) xs ys hx hy

/-- The words behind the tail. -/
def endF (v t : List Int) : List Int := if t.take 64 = z64 then behF v (t.drop 64) else behF (behF v (t.take 64)) (t.drop 64)
theorem sumF_len (v : List Int) (s : W8) : (sumF v s).length = 8 := rfl
theorem behF_len (v b : List Int) : (behF v b).length = 8 := rfl

set_option maxHeartbeats 1600000 in
set_option maxRecDepth 100000 in
theorem end_any (v t : List Int) (hv : v.length = 8) (ht : t.length = 128) (hB : BOk t) (w : World) (hK : KT w) :
    Calls Tryd.prog 25 #[.agg (Ar .u32 v), .agg (Ar .u8 t)] w fun e w' => e = .returned (.agg (Ar .u32 (endF v t))) ∧ Below w.heap.size w w' := by
  have hz := hide Tryd.zero46
  have HV := hide hv
  have l0 : (t.take 64).length = 64 := by rw [List.length_take]; omega
  have l1 : (t.drop 64).length = 64 := by rw [List.length_drop]; omega
  have b0 : BOk (t.take 64) := fun b hb => hB b (List.mem_of_mem_take hb)
  have b1 : BOk (t.drop 64) := fun b hb => hB b (List.mem_of_mem_drop hb)
  have H0 : Hid (Seg (((w.alloc (.cells (Ar .u32 v) 46)).alloc (.cells (Ar .u8 t) 52)).alloc (.cells (Ar .u32 z8) 46)) w.heap.size 0 .u32 v) := ((Seg.fresh w 46 .u32 v).alloc _).alloc _
  have H1 : Hid (Seg (((w.alloc (.cells (Ar .u32 v) 46)).alloc (.cells (Ar .u8 t) 52)).alloc (.cells (Ar .u32 z8) 46)) (w.heap.size + 1) 0 .u8 t) := by
    have := (Seg.fresh (w.alloc (.cells (Ar .u32 v) 46)) 52 .u8 t).alloc (.cells (Ar .u32 z8) 46)
    simpa [Hid] using this
  have H2 : Hid (Seg (((w.alloc (.cells (Ar .u32 v) 46)).alloc (.cells (Ar .u8 t) 52)).alloc (.cells (Ar .u32 z8) 46)) (w.heap.size + 1 + 1) 0 .u32 z8) := by
    have := Seg.fresh ((w.alloc (.cells (Ar .u32 v) 46)).alloc (.cells (Ar .u8 t) 52)) 46 .u32 z8
    simpa [Hid] using this
  have HW : Hid (Below w.heap.size w (((w.alloc (.cells (Ar .u32 v) 46)).alloc (.cells (Ar .u8 t) 52)).alloc (.cells (Ar .u32 z8) 46))) := (((Below.refl _ _).alloc (Nat.le_refl _) _).alloc (by simp) _).alloc (by simp; omega) _
  have HK1 : Hid (KT (((w.alloc (.cells (Ar .u32 v) 46)).alloc (.cells (Ar .u8 t) 52)).alloc (.cells (Ar .u32 z8) 46))) := ((hK.alloc _).alloc _).alloc _
  have HKw := hide hK
  have HSz : Hid (w.heap.size + 1 + 1 < (((w.alloc (.cells (Ar .u32 v) 46)).alloc (.cells (Ar .u8 t) 52)).alloc (.cells (Ar .u32 z8) 46)).heap.size) := by rw [Hid]; simp
  obtain ⟨t0, ht0⟩ : ∃ t0, Hid (t.take 64 = t0) := ⟨_, rfl⟩
  obtain ⟨t1, ht1⟩ : ∃ t1, Hid (t.drop 64 = t1) := ⟨_, rfl⟩
  have hE : Hid (endF v t = if t0 = z64 then behF v t1 else behF (behF v t0) t1) := by rw [Hid, ← unhide ht0, ← unhide ht1]; rfl
  rw [unhide ht0] at l0 b0
  rw [unhide ht1] at l1 b1
  have S0 : ∀ w', Seg w' (w.heap.size + 1) 0 .u8 t → Seg w' (w.heap.size + 1) 0 .u8 t0 := fun w' h => by
    have := h.sub 0 64 (by omega)
    rw [Nat.add_zero, List.drop_zero, unhide ht0] at this
    exact this
  have S1 : ∀ w', Seg w' (w.heap.size + 1) 0 .u8 t → Seg w' (w.heap.size + 1) 64 .u8 t1 := fun w' h => by
    have := h.sub 64 64 (by omega)
    rw [unhide ht1, List.take_of_length_le (by omega)] at this
    simpa using this
  have hS0 := hide S0
  have hS1 := hide S1
  have L0 := hide l0
  have L1 := hide l1
  have hC := hide (fun w hk => behind_any v t0 hv l0 b0 w hk)
  have hC1 := hide (fun (v' : List Int) (hv' : v'.length = 8) w hk => behind_any v' t1 hv' l1 b1 w hk)
  have hne := neq49 t0 z64 l0 z64_len
  have hbd := hide build49m
  clear hv ht hB hK l0 l1 b0 b1 S0 S1
  go_enter Tryd.func25, Tryd.ntmps25
  by_cases hc : t0 = z64
  · have hq : (t0 == z64) = true := by rw [hc]; exact beq_self_eq_true _
    rw [hq] at hne
    have HQ := hide hc
    clear hc hq
    go_wp2_with (first | (refine wpList_alloc_ar rfl 46 rfl (Ar .u32 z8) 8 (unhide hz) ?_) | (refine wpList_build rfl 49 #[] rfl (.agg (Ar .u8 z64)) (unhide hbd _ _) ?_) | (refine wpList_load_ar rfl 49 _ rfl (w.heap.size + 1) 0 rfl .u8 t0 _ 64 (unhide hS0 _ (unhide H1)) (unhide L0) Tryd.underlying49 rfl Tryd.info49 ?_) | (refine wpList_load_ar rfl 49 _ rfl (w.heap.size + 1) 64 rfl .u8 t1 _ 64 (unhide hS1 _ (unhide H1)) (unhide L1) Tryd.underlying49 rfl Tryd.info49 ?_) | (refine wpList_load_ar rfl 46 _ rfl w.heap.size 0 rfl .u32 v _ 8 (unhide H0) (unhide HV) Tryd.underlying46 rfl Tryd.info46 ?_))
    refine (unhide hC1 v (unhide HV) _ (unhide HK1)).mono ?_
    rintro e w1 ⟨rfl, hb1⟩
    have hT : Hid (w1.there (w.heap.size + 1 + 1) 0 8) := ((unhide H2).keepB (hb1.block _ (unhide HSz))).2
    have HB1 : Hid (Below w.heap.size w w1) := (unhide HW).trans (hb1.mono (by have := unhide HSz; omega))
    have hl := behF_len v t1
    have hF : Hid (endF v t = behF v t1) := by rw [Hid, unhide hE, if_pos (unhide HQ)]
    generalize behF v t1 = ys at *
    clear hb1 hne
    go_wp2_with (first | (refine wpList_store_ar rfl 46 _ _ rfl (w.heap.size + 1 + 1) 0 rfl .u32 ys 8 rfl hl (unhide hT) Tryd.info46 ?_))
    have hs := Seg.stored (k := .u32) ys (by rw [hl]; exact unhide hT)
    refine bodyPost_ret (v := .agg (Ar .u32 ys)) ?_ rfl ⟨by rw [unhide hF], ?_⟩
    · rw [results_cell_one rfl]
      have hld := run_loadVar_ar (P := Tryd.prog) _ (w.heap.size + 1 + 1) 0 46 .u32 ys _ 8 hs hl Tryd.underlying46 rfl Tryd.info46
      exact hld
    · have F := Fr.setCells (S := fun _ => False) (a := w) (w.heap.size + 1 + 1) (.inl (by omega)) (ys.map (Value.int .u32)) 0 (Fr.of_below (unhide HB1))
      exact F.below (Nat.le_refl _) (by simp)
  · have hq : (t0 == z64) = false := by rw [beq_eq_false_iff_ne]; exact hc
    rw [hq] at hne
    have HQ := hide hc
    clear hc hq
    go_wp2_with (first | (refine wpList_alloc_ar rfl 46 rfl (Ar .u32 z8) 8 (unhide hz) ?_) | (refine wpList_build rfl 49 #[] rfl (.agg (Ar .u8 z64)) (unhide hbd _ _) ?_) | (refine wpList_load_ar rfl 49 _ rfl (w.heap.size + 1) 0 rfl .u8 t0 _ 64 (unhide hS0 _ (unhide H1)) (unhide L0) Tryd.underlying49 rfl Tryd.info49 ?_) | (refine wpList_load_ar rfl 46 _ rfl w.heap.size 0 rfl .u32 v _ 8 (unhide H0) (unhide HV) Tryd.underlying46 rfl Tryd.info46 ?_))
    refine (unhide hC _ (unhide HK1)).mono ?_
    rintro e w1 ⟨rfl, hb1⟩
    have hsz := unhide HSz
    have h0 : Seg w1 w.heap.size 0 .u32 v := (unhide H0).keepB (hb1.block _ (by omega))
    have h1 : Seg w1 (w.heap.size + 1) 0 .u8 t := (unhide H1).keepB (hb1.block _ (by omega))
    have h2 : Seg w1 (w.heap.size + 1 + 1) 0 .u32 z8 := (unhide H2).keepB (hb1.block _ hsz)
    have hl := behF_len v t0
    have hF : Hid (endF v t = behF (behF v t0) t1) := by rw [Hid, unhide hE, if_neg (unhide HQ)]
    generalize behF v t0 = ys at *
    have hth : w1.there w.heap.size 0 8 := by have := h0.2; rwa [unhide HV] at this
    have F := Fr.setCells (S := fun k => k = w.heap.size) (a := w1) w.heap.size (.inr rfl) (ys.map (Value.int .u32)) 0 (Fr.refl _ w1)
    have HZ : Hid (Seg (w1.setCells w.heap.size 0 (ys.map (Value.int .u32))) w.heap.size 0 .u32 ys ∧ Seg (w1.setCells w.heap.size 0 (ys.map (Value.int .u32))) (w.heap.size + 1) 0 .u8 t ∧ Seg (w1.setCells w.heap.size 0 (ys.map (Value.int .u32))) (w.heap.size + 1 + 1) 0 .u32 z8 ∧ KT (w1.setCells w.heap.size 0 (ys.map (Value.int .u32))) ∧ Below w.heap.size w (w1.setCells w.heap.size 0 (ys.map (Value.int .u32))) ∧ w.heap.size + 1 + 1 < (w1.setCells w.heap.size 0 (ys.map (Value.int .u32))).heap.size ∧ w1.there w.heap.size 0 8) := by
      have hz1 := hb1.size
      have h0w : 0 < w.heap.size := (unhide HKw).2
      refine ⟨Seg.stored ys (by rw [hl]; exact hth), h1.apart _ _ _ (.inl (by omega)), h2.apart _ _ _ (.inl (by omega)), ?_, ?_, Nat.lt_of_lt_of_le (by omega) F.size, hth⟩
      · exact ((unhide HK1).below (by omega) hb1).below (B := w.heap.size) h0w (F.below (by omega) (fun k hk e => by omega))
      · exact ((unhide HW).trans (hb1.mono (by omega))).trans (F.below (by omega) (fun k hk e => by omega))
    clear h0 h1 h2 hth F hb1 hne hsz
    go_wp2_with (first | (refine wpList_store_ar rfl 46 _ _ rfl w.heap.size 0 rfl .u32 ys 8 rfl hl (unhide HZ).2.2.2.2.2.2 Tryd.info46 ?_; generalize w1.setCells w.heap.size 0 (ys.map (Value.int .u32)) = w2 at *) | (refine wpList_load_ar rfl 49 _ rfl (w.heap.size + 1) 64 rfl .u8 t1 _ 64 (unhide hS1 _ (unhide HZ).2.1) (unhide L1) Tryd.underlying49 rfl Tryd.info49 ?_) | (refine wpList_load_ar rfl 46 _ rfl w.heap.size 0 rfl .u32 ys _ 8 (unhide HZ).1 hl Tryd.underlying46 rfl Tryd.info46 ?_))
    refine (unhide hC1 ys hl _ (unhide HZ).2.2.2.1).mono ?_
    rintro e w3 ⟨rfl, hb3⟩
    have hzz := unhide HZ
    have hT : Hid (w3.there (w.heap.size + 1 + 1) 0 8) := (hzz.2.2.1.keepB (hb3.block _ hzz.2.2.2.2.2.1)).2
    have HB1 : Hid (Below w.heap.size w w3) := hzz.2.2.2.2.1.trans (hb3.mono (by omega))
    have hl2 := behF_len ys t1
    generalize behF ys t1 = zs at *
    clear hb3 hzz
    go_wp2_with (first | (refine wpList_store_ar rfl 46 _ _ rfl (w.heap.size + 1 + 1) 0 rfl .u32 zs 8 rfl hl2 (unhide hT) Tryd.info46 ?_))
    have hs := Seg.stored (k := .u32) zs (by rw [hl2]; exact unhide hT)
    refine bodyPost_ret (v := .agg (Ar .u32 zs)) ?_ rfl ⟨by rw [unhide hF], ?_⟩
    · rw [results_cell_one rfl]
      have hld := run_loadVar_ar (P := Tryd.prog) _ (w.heap.size + 1 + 1) 0 46 .u32 zs _ 8 hs hl2 Tryd.underlying46 rfl Tryd.info46
      exact hld
    · have F := Fr.setCells (S := fun _ => False) (a := w) (w.heap.size + 1 + 1) (.inl (by omega)) (zs.map (Value.int .u32)) 0 (Fr.of_below (unhide HB1))
      exact F.below (Nat.le_refl _) (by simp)
end Go.Proofs.YtlkcjimkgebeiaaDoor
