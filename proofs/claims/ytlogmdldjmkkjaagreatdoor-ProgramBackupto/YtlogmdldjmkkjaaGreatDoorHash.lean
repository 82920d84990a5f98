/-
  A hash in memory.
-/
import Derived.Test.YtlogmdldjmkkjaaGreatDoorBehind
namespace Go.Proofs.YtlogmdldjmkkjaaGreatDoor.dg
open Go.RowKit

theorem Tryz.info30 : (Tryz.prog.info? 30).map (·.size) = some 32 := by kernel_rfl
def z32 : List Int := List.replicate 32 0
theorem z32_len : z32.length = 32 := rfl
theorem Tryz.zero24 : (Tryz.prog.info? 30).map (fun i => (i.zero, i.size)) = some (some (.agg (Ar .u8 z32)), 32) := by kernel_rfl
/-- The words at the beginning. -/
def iv : List Int := [1779033703, 3144134277, 1013904242, 2773480762, 1359893119, 2600822924, 528734635, 1541459225]
theorem iv_len : iv.length = 8 := rfl
/-- The bytes of words. -/
def byt (v : List Int) (i : Nat) : Int := (v.getD (i / 4) 0 / 2 ^ (24 - 8 * (i % 4))) % 256
def byF (v : List Int) : Nat → List Int
  | 0 => []
  | n + 1 => byF v n ++ [byt v n]
theorem byF_len (v : List Int) : ∀ n, (byF v n).length = n
  | 0 => rfl
  | n + 1 => by rw [byF, List.length_append, byF_len v n]; rfl
theorem byF_bok (v : List Int) : ∀ n, BOk (byF v n)
  | 0 => fun b hb => by simp [byF] at hb
  | n + 1 => fun b hb => by
    rw [byF, List.mem_append] at hb
    rcases hb with hb | hb
    · exact byF_bok v n b hb
    · simp at hb; subst hb; unfold byt; omega

set_option maxHeartbeats 1600000 in
set_option maxRecDepth 100000 in
theorem start_any (w : World) : Calls Tryz.prog 92 #[] w fun e w' => e = .returned (.agg (Ar .u32 iv)) ∧ Below w.heap.size w w' := by
  have hz := hide Tryz.zero46
  have H0 := hide (Seg.fresh w 157 .u32 z8)
  go_enter Tryz.func92, Tryz.ntmps92
  go_wp2_with (first | (refine wpList_alloc_ar rfl 157 rfl (Ar .u32 z8) 8 (unhide hz) ?_) | (refine wpList_store_ar rfl 157 _ _ rfl w.heap.size 0 rfl .u32 iv 8 rfl rfl (unhide H0).2 Tryz.info157 ?_))
  have hl := iv_len
  have ht : (w.alloc (.cells (Ar .u32 z8) 157)).there w.heap.size 0 8 := (unhide H0).2
  generalize iv = ys at *
  generalize hz8 : Ar .u32 z8 = zz at *
  have hs := Seg.stored (k := .u32) ys (by rw [hl]; exact ht)
  refine bodyPost_ret (v := .agg (Ar .u32 ys)) ?_ rfl ⟨rfl, ?_⟩
  · rw [results_cell_one rfl]
    have hld := run_loadVar_ar (P := Tryz.prog) _ w.heap.size 0 157 .u32 ys _ 8 hs hl Tryz.underlying157 rfl Tryz.info157
    exact hld
  · have F := Fr.setCells (S := fun _ => False) (a := w) w.heap.size (.inl (Nat.le_refl _)) (ys.map (Value.int .u32)) 0 ((Fr.refl _ w).alloc (.cells zz 157))
    exact F.below (Nat.le_refl _) (by simp)

set_option maxHeartbeats 1600000 in
set_option maxRecDepth 100000 in
theorem held_any (p n : Nat) (w : World) (hc : w.cell? ⟨p, 72, none⟩ = some (.int .u64 (n : Int))) : Calls Tryz.prog 93 #[.pointer (some ⟨p, 0, none⟩)] w fun e w' => e = .returned (.int .i64 ((n % 64 : Nat) : Int)) ∧ w' = w := by
  have h1 : (n : Int).tmod 64 = ((n % 64 : Nat) : Int) := by rw [Int.tmod_eq_emod_of_nonneg (by omega)]; omega
  obtain ⟨m, hm⟩ : ∃ m, Hid (n % 64 = m) := ⟨_, rfl⟩
  rw [unhide hm] at h1 ⊢
  have hl : m < 64 := by have := unhide hm; omega
  have hw : IntKind.i64.wrap (m : Int) = (m : Int) := by simp [IntKind.wrap, IntKind.signed, IntKind.bits]; omega
  go_enter Tryz.func93, Tryz.ntmps93
  go_wp2
  go_ret
  exact ⟨rfl, rfl⟩

set_option maxHeartbeats 1600000 in
set_option maxRecDepth 100000 in
theorem bytes_any (v : List Int) (hv : v.length = 8) (w : World) : Calls Tryz.prog 97 #[.agg (Ar .u32 v)] w fun e w' => e = .returned (.agg (Ar .u8 (byF v 32))) ∧ Below w.heap.size w w' := by
  have hz := hide Tryz.zero24
  have HV := hide hv
  have H0 : Hid (Seg (((w.alloc (.cells (Ar .u32 v) 157)).alloc (.cells (Ar .u8 z32) 30)).alloc (.cells (Ar .u8 z32) 30)) w.heap.size 0 .u32 v) := ((Seg.fresh w 157 .u32 v).alloc _).alloc _
  have H1 : Hid (Seg (((w.alloc (.cells (Ar .u32 v) 157)).alloc (.cells (Ar .u8 z32) 30)).alloc (.cells (Ar .u8 z32) 30)) (w.heap.size + 1) 0 .u8 z32) := by
    have := (Seg.fresh (w.alloc (.cells (Ar .u32 v) 157)) 30 .u8 z32).alloc (.cells (Ar .u8 z32) 30)
    simpa [Hid] using this
  have H2 : Hid (Seg (((w.alloc (.cells (Ar .u32 v) 157)).alloc (.cells (Ar .u8 z32) 30)).alloc (.cells (Ar .u8 z32) 30)) (w.heap.size + 1 + 1) 0 .u8 z32) := by
    have := Seg.fresh ((w.alloc (.cells (Ar .u32 v) 157)).alloc (.cells (Ar .u8 z32) 30)) 30 .u8 z32
    simpa [Hid] using this
  have HW : Hid (Below w.heap.size w (((w.alloc (.cells (Ar .u32 v) 157)).alloc (.cells (Ar .u8 z32) 30)).alloc (.cells (Ar .u8 z32) 30))) := (((Below.refl _ _).alloc (Nat.le_refl _) _).alloc (by simp) _).alloc (by simp; omega) _
  clear hv
  go_enter Tryz.func97, Tryz.ntmps97
  go_wp2_with (refine wpList_alloc_ar rfl 30 rfl (Ar .u8 z32) 32 (unhide hz) ?_)
  go_loopg [5] 32 (fun k s wr => ∃ (j : Nat) (xs : List Int), Hid (j + k = 32) ∧ j ≤ 32 ∧ s = .int .i64 (j : Int) ∧ Hid (xs.length = 32 ∧ xs.take j = byF v j) ∧ Hid (Seg wr w.heap.size 0 .u32 v ∧ Seg wr (w.heap.size + 1) 0 .u8 z32 ∧ Seg wr (w.heap.size + 1 + 1) 0 .u8 xs) ∧ Hid (Below w.heap.size w wr))
  case atStart => exact ⟨0, z32, by unfold Hid; omega, by omega, rfl, ⟨rfl, rfl⟩, ⟨unhide H0, unhide H1, unhide H2⟩, HW⟩
  case round =>
    obtain ⟨j, xs, hj, hj32, rfl, hxs, hG, hW⟩ := hrel
    by_cases hlt : j < 32
    · have hc0 := (unhide hG).1.cell (j / 4) (by rw [unhide HV]; omega)
      have hd0 := (unhide hG).2.2.cell j (by rw [(unhide hxs).1]; omega)
      have hf0 := (unhide hG).2.2.frz j (by rw [(unhide hxs).1]; omega)
      rw [Nat.zero_add] at hc0 hd0 hf0
      have hby : Hid (byF v (j + 1) = byF v j ++ [(v.getD (j / 4) 0 / 2 ^ (24 - 8 * (j % 4))) % 256]) := rfl
      generalize v.getD (j / 4) 0 = x at *
      generalize xs.getD j 0 = o1 at *
      obtain ⟨q, hq⟩ : ∃ q, Hid (j / 4 = q) := ⟨_, rfl⟩
      obtain ⟨r, hr⟩ : ∃ r, Hid (j % 4 = r) := ⟨_, rfl⟩
      rw [unhide hq] at hc0
      rw [unhide hr] at hby
      have l1 : q < 8 := by have := unhide hq; omega
      have l2 : r < 4 := by have := unhide hr; omega
      have e1 : (j : Int).tdiv 4 = (q : Int) := by rw [Int.tdiv_eq_ediv_of_nonneg (by omega)]; have := unhide hq; omega
      have e1' : (j : Int) / 4 = (q : Int) := by have := unhide hq; omega
      have e2 : (j : Int).tmod 4 = (r : Int) := by rw [Int.tmod_eq_emod_of_nonneg (by omega)]; have := unhide hr; omega
      have e2' : (j : Int) % 4 = (r : Int) := by have := unhide hr; omega
      have i1 : (0 : Int) ≤ (j : Int) := by omega
      have i2 : (j : Int) < 32 := by omega
      have k1 : (q : Int) < 8 := by omega
      have e3 : 24 - 8 * (r : Int) = ((24 - 8 * r : Nat) : Int) := by omega
      obtain ⟨sh, hsh⟩ : ∃ sh, Hid (24 - 8 * r = sh) := ⟨_, rfl⟩
      rw [unhide hsh] at hby e3
      have l3 : sh < 32 := by have := unhide hsh; omega
      go_wp2
      go_roundg (gk - 1)
      case measure => have := unhide hj; omega
      case rel =>
        have h1 := (unhide hG).2.2.set j (by rw [(unhide hxs).1]; omega) (x / 2 ^ sh % 256)
        rw [Nat.zero_add] at h1
        exact ⟨j + 1, xs.set j (x / 2 ^ sh % 256), by have := unhide hj; unfold Hid; omega, by omega, by go_num, ⟨by rw [List.length_set]; exact (unhide hxs).1, by rw [unhide hby]; exact take_set2 xs j (by rw [(unhide hxs).1]; omega) _ _ (unhide hxs).2⟩,
          ⟨((unhide hG).1.other _ _ (.inl (by simp; omega))), ((unhide hG).2.1.other _ _ (.inl (by simp))), h1⟩, ((unhide hW).setCell (p := ⟨w.heap.size + 1 + 1, j, none⟩) (by simp; omega) _)⟩
    · obtain rfl : j = 32 := by omega
      have e : xs = byF v 32 := by
        have := (unhide hxs).2
        rwa [List.take_of_length_le (by rw [(unhide hxs).1]; omega)] at this
      have HE := hide e
      have HL := hide (unhide hxs).1
      clear e hxs
      go_wp2_with (first | (refine wpList_load_ar rfl 30 _ rfl (w.heap.size + 1 + 1) 0 rfl .u8 xs _ 32 (unhide hG).2.2 (unhide HL) Tryz.underlying30 rfl Tryz.info30 ?_) | (refine wpList_store_ar rfl 30 _ _ rfl (w.heap.size + 1) 0 rfl .u8 xs 32 rfl (unhide HL) (by have := (unhide hG).2.1.2; rwa [z32_len] at this) Tryz.info30 ?_))
      have hs := Seg.stored (k := .u8) xs (by have := (unhide hG).2.1.2; rw [unhide HL]; rwa [z32_len] at this)
      refine bodyPost_ret (v := .agg (Ar .u8 xs)) ?_ rfl ⟨by rw [unhide HE], ?_⟩
      · rw [results_cell_one rfl]
        have hld := run_loadVar_ar (P := Tryz.prog) _ (w.heap.size + 1) 0 30 .u8 xs _ 32 hs (unhide HL) Tryz.underlying30 rfl Tryz.info30
        exact hld
      · have F := Fr.setCells (S := fun _ => False) (a := w) (w.heap.size + 1) (.inl (by omega)) (xs.map (Value.int .u8)) 0 (Fr.of_below (unhide hW))
        exact F.below (Nat.le_refl _) (by simp)


theorem Seg.sub {w : World} {b o : Nat} {k : IntKind} {xs : List Int} (h : Seg w b o k xs) (i n : Nat) (hn : i + n ≤ xs.length) : Seg w b (o + i) k ((xs.drop i).take n) := by
  have hl : ((xs.drop i).take n).length = n := by rw [List.length_take, List.length_drop]; omega
  refine ⟨fun j v hv => ?_, fun j hj => ?_⟩
  · rw [List.getElem?_map] at hv
    have hj : j < n := by
      have := Option.map_eq_some_iff.1 hv
      obtain ⟨x, hx, _⟩ := this
      have := (List.getElem?_eq_some_iff.1 hx).1
      omega
    rw [List.getElem?_take, if_pos hj, List.getElem?_drop, ← List.getElem?_map] at hv
    rw [Nat.add_assoc]
    exact h.1 (i + j) v hv
  · rw [hl] at hj
    rw [Nat.add_assoc]
    exact h.2 (i + j) (by omega)
theorem wpList_build {P : Program} {ops : Array Oper} {rest : List Oper} {op : Oper} {a : Act} {w : World} {Q : Exit → Act → World → Prop} (hgd : op.guard = none) (t : TypeId) (ps : Array (Nat × Operand)) (ho : op.op = .build t ps)
    (v : Value) (hb : (Instr.build t (ps.map fun (i, x) => (i, a.eval x))).run P w = .ok v w)
    (h : wpList P ops Q rest (a.put op.dst v) w) : wpList P ops Q (op :: rest) a w := by
  refine wpList_plain hgd fun K hK => ?_
  unfold Oper.wp execOp
  simp only [ho, Sem.run_bind, hb, Result.andThen_ok, Sem.run_pure]
  exact hK _ _ h
theorem build49m (f : Nat × Operand → Nat × Value) (w : World) : (Instr.build 160 ((#[] : Array (Nat × Operand)).map f)).run Tryz.prog w = .ok (.agg (Ar .u8 z64)) w := by
  have hz := (zero_of_info (P := Tryz.prog) (t := 160) (v := .agg (Ar .u8 z64)) (n := 64) (by kernel_rfl)).1
  simp [Instr.build, hz, Value.cells, Instr.fill]
theorem build49 (w : World) : (Instr.build 160 #[]).run Tryz.prog w = .ok (.agg (Ar .u8 z64)) w := by
  have hz := (zero_of_info (P := Tryz.prog) (t := 160) (v := .agg (Ar .u8 z64)) (n := 64) (by kernel_rfl)).1
  simp [Instr.build, hz, Value.cells, Instr.fill]
theorem neq49 (xs ys : List Int) (hx : xs.length = 64) (hy : ys.length = 64) (w : World) : (Op.equalIn 10000 160 (.agg (Ar .u8 xs)) (.agg (Ar .u8 ys))).run Tryz.prog w = .ok (xs == ys) w := by
  obtain ⟨i0, hi0, _⟩ := info_parts Tryz.info5
  exact run_equal_ar (P := Tryz.prog) w 9998 160 5 64 .u8 .u8 i0 Tryz.underlying160 hi0 (by kernel_rfl) Tryz.underlying5 (Tryz.isAgg5 w) xs ys hx hy

/-- The words behind the tail. -/
def endF (v t : List Int) : List Int := if t.take 64 = z64 then behF v (t.drop 64) else behF (behF v (t.take 64)) (t.drop 64)
theorem sumF_len (v : List Int) (s : W8) : (sumF v s).length = 8 := rfl
theorem behF_len (v b : List Int) : (behF v b).length = 8 := rfl

set_option maxHeartbeats 1600000 in
set_option maxRecDepth 100000 in
theorem end_any (v t : List Int) (hv : v.length = 8) (ht : t.length = 128) (hB : BOk t) (w : World) (hK : KT w) :
    Calls Tryz.prog 96 #[.agg (Ar .u32 v), .agg (Ar .u8 t)] w fun e w' => e = .returned (.agg (Ar .u32 (endF v t))) ∧ Below w.heap.size w w' := by
  have hz := hide Tryz.zero46
  have HV := hide hv
  have l0 : (t.take 64).length = 64 := by rw [List.length_take]; omega
  have l1 : (t.drop 64).length = 64 := by rw [List.length_drop]; omega
  have b0 : BOk (t.take 64) := fun b hb => hB b (List.mem_of_mem_take hb)
  have b1 : BOk (t.drop 64) := fun b hb => hB b (List.mem_of_mem_drop hb)
  have H0 : Hid (Seg (((w.alloc (.cells (Ar .u32 v) 157)).alloc (.cells (Ar .u8 t) 162)).alloc (.cells (Ar .u32 z8) 157)) w.heap.size 0 .u32 v) := ((Seg.fresh w 157 .u32 v).alloc _).alloc _
  have H1 : Hid (Seg (((w.alloc (.cells (Ar .u32 v) 157)).alloc (.cells (Ar .u8 t) 162)).alloc (.cells (Ar .u32 z8) 157)) (w.heap.size + 1) 0 .u8 t) := by
    have := (Seg.fresh (w.alloc (.cells (Ar .u32 v) 157)) 162 .u8 t).alloc (.cells (Ar .u32 z8) 157)
    simpa [Hid] using this
  have H2 : Hid (Seg (((w.alloc (.cells (Ar .u32 v) 157)).alloc (.cells (Ar .u8 t) 162)).alloc (.cells (Ar .u32 z8) 157)) (w.heap.size + 1 + 1) 0 .u32 z8) := by
    have := Seg.fresh ((w.alloc (.cells (Ar .u32 v) 157)).alloc (.cells (Ar .u8 t) 162)) 157 .u32 z8
    simpa [Hid] using this
  have HW : Hid (Below w.heap.size w (((w.alloc (.cells (Ar .u32 v) 157)).alloc (.cells (Ar .u8 t) 162)).alloc (.cells (Ar .u32 z8) 157))) := (((Below.refl _ _).alloc (Nat.le_refl _) _).alloc (by simp) _).alloc (by simp; omega) _
  have HK1 : Hid (KT (((w.alloc (.cells (Ar .u32 v) 157)).alloc (.cells (Ar .u8 t) 162)).alloc (.cells (Ar .u32 z8) 157))) := ((hK.alloc _).alloc _).alloc _
  have HKw := hide hK
  have HSz : Hid (w.heap.size + 1 + 1 < (((w.alloc (.cells (Ar .u32 v) 157)).alloc (.cells (Ar .u8 t) 162)).alloc (.cells (Ar .u32 z8) 157)).heap.size) := by rw [Hid]; simp
  obtain ⟨t0, ht0⟩ : ∃ t0, Hid (t.take 64 = t0) := ⟨_, rfl⟩
  obtain ⟨t1, ht1⟩ : ∃ t1, Hid (t.drop 64 = t1) := ⟨_, rfl⟩
  have hE : Hid (endF v t = if t0 = z64 then behF v t1 else behF (behF v t0) t1) := by rw [Hid, ← unhide ht0, ← unhide ht1]; rfl
  rw [unhide ht0] at l0 b0
  rw [unhide ht1] at l1 b1
  have S0 : ∀ w', Seg w' (w.heap.size + 1) 0 .u8 t → Seg w' (w.heap.size + 1) 0 .u8 t0 := fun w' h => by
    have := h.sub 0 64 (by omega)
    rw [Nat.add_zero, List.drop_zero, unhide ht0] at this
    exact this
  have S1 : ∀ w', Seg w' (w.heap.size + 1) 0 .u8 t → Seg w' (w.heap.size + 1) 64 .u8 t1 := fun w' h => by
    have := h.sub 64 64 (by omega)
    rw [unhide ht1, List.take_of_length_le (by omega)] at this
    simpa using this
  have hS0 := hide S0
  have hS1 := hide S1
  have L0 := hide l0
  have L1 := hide l1
  have hC := hide (fun w hk => behind_any v t0 hv l0 b0 w hk)
  have hC1 := hide (fun (v' : List Int) (hv' : v'.length = 8) w hk => behind_any v' t1 hv' l1 b1 w hk)
  have hne := neq49 t0 z64 l0 z64_len
  have hbd := hide build49m
  clear hv ht hB hK l0 l1 b0 b1 S0 S1
  go_enter Tryz.func96, Tryz.ntmps96
  by_cases hc : t0 = z64
  · have hq : (t0 == z64) = true := by rw [hc]; exact beq_self_eq_true _
    rw [hq] at hne
    have HQ := hide hc
    clear hc hq
    go_wp2_with (first | (refine wpList_alloc_ar rfl 157 rfl (Ar .u32 z8) 8 (unhide hz) ?_) | (refine wpList_build rfl 160 #[] rfl (.agg (Ar .u8 z64)) (unhide hbd _ _) ?_) | (refine wpList_load_ar rfl 160 _ rfl (w.heap.size + 1) 0 rfl .u8 t0 _ 64 (unhide hS0 _ (unhide H1)) (unhide L0) Tryz.underlying160 rfl Tryz.info160 ?_) | (refine wpList_load_ar rfl 160 _ rfl (w.heap.size + 1) 64 rfl .u8 t1 _ 64 (unhide hS1 _ (unhide H1)) (unhide L1) Tryz.underlying160 rfl Tryz.info160 ?_) | (refine wpList_load_ar rfl 157 _ rfl w.heap.size 0 rfl .u32 v _ 8 (unhide H0) (unhide HV) Tryz.underlying157 rfl Tryz.info157 ?_))
    refine (unhide hC1 v (unhide HV) _ (unhide HK1)).mono ?_
    rintro e w1 ⟨rfl, hb1⟩
    have hT : Hid (w1.there (w.heap.size + 1 + 1) 0 8) := ((unhide H2).keepB (hb1.block _ (unhide HSz))).2
    have HB1 : Hid (Below w.heap.size w w1) := (unhide HW).trans (hb1.mono (by have := unhide HSz; omega))
    have hl := behF_len v t1
    have hF : Hid (endF v t = behF v t1) := by rw [Hid, unhide hE, if_pos (unhide HQ)]
    generalize behF v t1 = ys at *
    clear hb1 hne
    go_wp2_with (first | (refine wpList_store_ar rfl 157 _ _ rfl (w.heap.size + 1 + 1) 0 rfl .u32 ys 8 rfl hl (unhide hT) Tryz.info157 ?_))
    have hs := Seg.stored (k := .u32) ys (by rw [hl]; exact unhide hT)
    refine bodyPost_ret (v := .agg (Ar .u32 ys)) ?_ rfl ⟨by rw [unhide hF], ?_⟩
    · rw [results_cell_one rfl]
      have hld := run_loadVar_ar (P := Tryz.prog) _ (w.heap.size + 1 + 1) 0 157 .u32 ys _ 8 hs hl Tryz.underlying157 rfl Tryz.info157
      exact hld
    · have F := Fr.setCells (S := fun _ => False) (a := w) (w.heap.size + 1 + 1) (.inl (by omega)) (ys.map (Value.int .u32)) 0 (Fr.of_below (unhide HB1))
      exact F.below (Nat.le_refl _) (by simp)
  · have hq : (t0 == z64) = false := by rw [beq_eq_false_iff_ne]; exact hc
    rw [hq] at hne
    have HQ := hide hc
    clear hc hq
    go_wp2_with (first | (refine wpList_alloc_ar rfl 157 rfl (Ar .u32 z8) 8 (unhide hz) ?_) | (refine wpList_build rfl 160 #[] rfl (.agg (Ar .u8 z64)) (unhide hbd _ _) ?_) | (refine wpList_load_ar rfl 160 _ rfl (w.heap.size + 1) 0 rfl .u8 t0 _ 64 (unhide hS0 _ (unhide H1)) (unhide L0) Tryz.underlying160 rfl Tryz.info160 ?_) | (refine wpList_load_ar rfl 157 _ rfl w.heap.size 0 rfl .u32 v _ 8 (unhide H0) (unhide HV) Tryz.underlying157 rfl Tryz.info157 ?_))
    refine (unhide hC _ (unhide HK1)).mono ?_
    rintro e w1 ⟨rfl, hb1⟩
    have hsz := unhide HSz
    have h0 : Seg w1 w.heap.size 0 .u32 v := (unhide H0).keepB (hb1.block _ (by omega))
    have h1 : Seg w1 (w.heap.size + 1) 0 .u8 t := (unhide H1).keepB (hb1.block _ (by omega))
    have h2 : Seg w1 (w.heap.size + 1 + 1) 0 .u32 z8 := (unhide H2).keepB (hb1.block _ hsz)
    have hl := behF_len v t0
    have hF : Hid (endF v t = behF (behF v t0) t1) := by rw [Hid, unhide hE, if_neg (unhide HQ)]
    generalize behF v t0 = ys at *
    have hth : w1.there w.heap.size 0 8 := by have := h0.2; rwa [unhide HV] at this
    have F := Fr.setCells (S := fun k => k = w.heap.size) (a := w1) w.heap.size (.inr rfl) (ys.map (Value.int .u32)) 0 (Fr.refl _ w1)
    have HZ : Hid (Seg (w1.setCells w.heap.size 0 (ys.map (Value.int .u32))) w.heap.size 0 .u32 ys ∧ Seg (w1.setCells w.heap.size 0 (ys.map (Value.int .u32))) (w.heap.size + 1) 0 .u8 t ∧ Seg (w1.setCells w.heap.size 0 (ys.map (Value.int .u32))) (w.heap.size + 1 + 1) 0 .u32 z8 ∧ KT (w1.setCells w.heap.size 0 (ys.map (Value.int .u32))) ∧ Below w.heap.size w (w1.setCells w.heap.size 0 (ys.map (Value.int .u32))) ∧ w.heap.size + 1 + 1 < (w1.setCells w.heap.size 0 (ys.map (Value.int .u32))).heap.size ∧ w1.there w.heap.size 0 8) := by
      have hz1 := hb1.size
      have h0w : 1 < w.heap.size := (unhide HKw).2
      refine ⟨Seg.stored ys (by rw [hl]; exact hth), h1.apart _ _ _ (.inl (by omega)), h2.apart _ _ _ (.inl (by omega)), ?_, ?_, Nat.lt_of_lt_of_le (by omega) F.size, hth⟩
      · exact ((unhide HK1).below (by omega) hb1).below (B := w.heap.size) h0w (F.below (by omega) (fun k hk e => by omega))
      · exact ((unhide HW).trans (hb1.mono (by omega))).trans (F.below (by omega) (fun k hk e => by omega))
    clear h0 h1 h2 hth F hb1 hne hsz
    go_wp2_with (first | (refine wpList_store_ar rfl 157 _ _ rfl w.heap.size 0 rfl .u32 ys 8 rfl hl (unhide HZ).2.2.2.2.2.2 Tryz.info157 ?_; generalize w1.setCells w.heap.size 0 (ys.map (Value.int .u32)) = w2 at *) | (refine wpList_load_ar rfl 160 _ rfl (w.heap.size + 1) 64 rfl .u8 t1 _ 64 (unhide hS1 _ (unhide HZ).2.1) (unhide L1) Tryz.underlying160 rfl Tryz.info160 ?_) | (refine wpList_load_ar rfl 157 _ rfl w.heap.size 0 rfl .u32 ys _ 8 (unhide HZ).1 hl Tryz.underlying157 rfl Tryz.info157 ?_))
    refine (unhide hC1 ys hl _ (unhide HZ).2.2.2.1).mono ?_
    rintro e w3 ⟨rfl, hb3⟩
    have hzz := unhide HZ
    have hT : Hid (w3.there (w.heap.size + 1 + 1) 0 8) := (hzz.2.2.1.keepB (hb3.block _ hzz.2.2.2.2.2.1)).2
    have HB1 : Hid (Below w.heap.size w w3) := hzz.2.2.2.2.1.trans (hb3.mono (by omega))
    have hl2 := behF_len ys t1
    generalize behF ys t1 = zs at *
    clear hb3 hzz
    go_wp2_with (first | (refine wpList_store_ar rfl 157 _ _ rfl (w.heap.size + 1 + 1) 0 rfl .u32 zs 8 rfl hl2 (unhide hT) Tryz.info157 ?_))
    have hs := Seg.stored (k := .u32) zs (by rw [hl2]; exact unhide hT)
    refine bodyPost_ret (v := .agg (Ar .u32 zs)) ?_ rfl ⟨by rw [unhide hF], ?_⟩
    · rw [results_cell_one rfl]
      have hld := run_loadVar_ar (P := Tryz.prog) _ (w.heap.size + 1 + 1) 0 157 .u32 zs _ 8 hs hl2 Tryz.underlying157 rfl Tryz.info157
      exact hld
    · have F := Fr.setCells (S := fun _ => False) (a := w) (w.heap.size + 1 + 1) (.inl (by omega)) (zs.map (Value.int .u32)) 0 (Fr.of_below (unhide HB1))
      exact F.below (Nat.le_refl _) (by simp)


theorem Tryz.info162 : (Tryz.prog.info? 162).map (·.size) = some 128 := by kernel_rfl
def z128 : List Int := List.replicate 128 0
theorem z128_len : z128.length = 128 := by simp [z128]
theorem Tryz.zero52 : (Tryz.prog.info? 162).map (fun i => (i.zero, i.size)) = some (some (.agg (Ar .u8 z128)), 128) := by kernel_rfl

/-- The number of bits, the last i bytes of it. -/
def lenB (n : Nat) : Nat → List Int
  | 0 => []
  | i + 1 => ((n * 8 / 2 ^ (8 * i) % 256 : Nat) : Int) :: lenB n i
theorem lenB_len (n : Nat) : ∀ i, (lenB n i).length = i
  | 0 => rfl
  | i + 1 => by rw [lenB, List.length_cons, lenB_len n i]
def bas (h : Nat) : Nat := if h < 56 then 64 else 0
/-- The tail ahead of its last bytes. -/
def pad0 (r : List Int) : List Int := (z128.take (bas r.length) ++ r ++ z128.drop (bas r.length + r.length)).set (bas r.length + r.length) 128
theorem pad0_len (r : List Int) (h : r.length < 64) : (pad0 r).length = 128 := by
  unfold pad0
  have : bas r.length ≤ 64 := by unfold bas; split <;> omega
  simp only [List.length_set, List.length_append, List.length_take, List.length_drop, z128_len]
  omega
def padT (r : List Int) (n : Nat) : List Int := (pad0 r).take 120 ++ lenB n 8
theorem padT_len (r : List Int) (n : Nat) (h : r.length < 64) : (padT r n).length = 128 := by
  unfold padT; rw [List.length_append, List.length_take, pad0_len r h, lenB_len]; omega

theorem pad_step (T : List Int) (n i : Nat) (hT : T.length = 128) (hi : i < 8) : (T.take (128 - i) ++ lenB n i).set (127 - i) ((n * 8 / 2 ^ (8 * i) % 256 : Nat) : Int) = T.take (128 - (i + 1)) ++ lenB n (i + 1) := by
  rw [show 128 - i = (127 - i) + 1 by omega, take_getD0 T (127 - i) (by omega), List.append_assoc, List.set_append_right _ _ (by rw [List.length_take]; omega), List.length_take, show 127 - i - min (127 - i) T.length = 0 by omega, show 128 - (i + 1) = 127 - i by omega]
  rfl
theorem Seg.splice {w : World} {b o : Nat} {k : IntKind} {xs : List Int} (h : Seg w b o k xs) (i : Nat) (ys : List Int) (hi : i + ys.length ≤ xs.length) :
    Seg (w.setCells b (o + i) (ys.map (Value.int k))) b o k (xs.take i ++ ys ++ xs.drop (i + ys.length)) := by
  have hl : (xs.take i ++ ys ++ xs.drop (i + ys.length)).length = xs.length := by simp only [List.length_append, List.length_take, List.length_drop]; omega
  refine ⟨fun j v hv => ?_, fun j hj => ?_⟩
  · by_cases h1 : j < i
    · rw [World.cell?_setCells_out b _ _ w ⟨b, o + j, none⟩ (fun _ _ => .inl (by simp; omega))]
      refine h.1 j v ?_
      rw [List.getElem?_map, List.append_assoc, List.getElem?_append_left (by rw [List.length_take]; omega), List.getElem?_take, if_pos h1, ← List.getElem?_map] at hv
      exact hv
    · by_cases h2 : j < i + ys.length
      · obtain ⟨d, rfl⟩ : ∃ d, j = i + d := ⟨j - i, by omega⟩
        have hd : d < (ys.map (Value.int k)).length := by rw [List.length_map]; omega
        have := World.cell?_setCells_in b (ys.map (Value.int k)) (o + i) w (fun q hq => by
          rw [List.length_map] at hq
          rw [Nat.add_assoc]; exact (h.2 (i + q) (by omega)).1) d hd
        rw [← Nat.add_assoc, this]
        rw [List.getElem?_map, List.append_assoc, List.getElem?_append_right (by rw [List.length_take]; omega), List.length_take, show i + d - min i xs.length = d by omega, List.getElem?_append_left (by rw [List.length_map] at hd; exact hd), ← List.getElem?_map, List.getElem?_eq_getElem hd] at hv
        exact hv
      · rw [World.cell?_setCells_out b _ _ w ⟨b, o + j, none⟩ (fun _ _ => .inr (by simp; omega))]
        refine h.1 j v ?_
        rw [List.getElem?_map, List.getElem?_append_right (by rw [List.length_append, List.length_take]; omega), List.length_append, List.length_take, List.getElem?_drop, show i + ys.length + (j - (min i xs.length + ys.length)) = j by omega, ← List.getElem?_map] at hv
        exact hv
  · rw [hl] at hj
    exact World.there_setCells h.2 _ _ _ j hj
/-- copy into cells that are there, as one step of a region that draws. -/
theorem step_copy_ar {ops : Array Oper} {op : Oper} {a : Act} {w : World} {K : Act → World → Prop} {Q : Exit → Act → World → Prop} {E : Prop} (hgd : op.guard = none) (d s : Operand)
    (ho : op.op = .call { callee := .builtin .copy, args := #[d, s], argTypes := #[27, 27] }) (b o dLen dCap : Nat) (hd : a.eval d = .slice (some ⟨b, o, none⟩) dLen dCap) (sv : Value) (bs : List Int) (hs : a.eval s = sv) (hR : Rd w sv bs)
    (ht : w.there b o (min bs.length dLen)) (h : K (a.put op.dst (goInt (min bs.length dLen : Nat))) (w.setCells b o ((bs.take dLen).map (Value.int .u8)))) : if Region.wanted op (yielded ops a.tmps) = true then Oper.wp Tryz.prog op a w K Q else E := by
  rw [if_pos (by simp [Region.wanted, hgd])]
  have hl : ((bs.take dLen).map (Value.int .u8)).length = Nat.min bs.length dLen := by rw [List.length_map, List.length_take]; exact Nat.min_comm _ _
  have hsz : (Tryz.prog.info? 5).map (·.size) = some 1 := by kernel_rfl
  rcases hR with ⟨rfl, rfl⟩ | ⟨sb, so, cap, rfl, h1, h2, h3, h4⟩
  · have hrun := run_copy_none (P := Tryz.prog) w 27 27 op.type 5 (some ⟨b, o, none⟩) none dLen dCap 0 0 Tryz.underlying27 hsz (Nat.min_eq_left (Nat.zero_le _))
    have h' : K (a.put op.dst (goInt 0)) w := by simpa [World.setCells] using h
    unfold Oper.wp
    simp [execOp, ho, resolve, invoke, builtin, hd, hs, hrun, Result.andThen]
    exact h'
  · have hrun := run_copy_cells (P := Tryz.prog) w 27 27 op.type 5 b o dLen dCap ⟨sb, so, none⟩ bs.length cap ((bs.take dLen).map (Value.int .u8)) Tryz.underlying27 hsz hl
      (fun j v hv => by
        rw [addr_add]
        rw [List.getElem?_map, Option.map_eq_some_iff] at hv
        obtain ⟨n, hn, rfl⟩ := hv
        have hj : j < bs.length := by have := (List.getElem?_eq_some_iff.1 hn).1; rw [List.length_take] at this; omega
        have hjd : j < dLen := by have := (List.getElem?_eq_some_iff.1 hn).1; rw [List.length_take] at this; omega
        rw [List.getElem?_take, if_pos hjd] at hn
        rw [h4 j hj, List.getD, hn]; rfl)
      (fun j hj => (ht j (by rw [hl] at hj; exact hj)).1) (fun j hj => (ht j (by rw [hl] at hj; exact hj)).2)
      (fun v hv => by obtain ⟨_, _, rfl⟩ := List.mem_map.1 hv; rfl)
    rw [hl] at hrun
    unfold Oper.wp
    simp only [execOp, ho, resolve, invoke, builtin, hd, hs, hrun, Result.andThen, Sem.run_bind, Sem.run_pure, List.map_toArray, List.map_cons, List.map_nil]
    exact h


set_option maxHeartbeats 1600000 in
set_option maxRecDepth 100000 in
theorem padded_lo (op r : List Int) (n : Nat) (ho : op.length = 64) (hr : op.take r.length = r) (hh : r.length < 56) (hn : n < 1152921504606846976) (w : World) :
    Calls Tryz.prog 95 #[.agg (Ar .u8 op), .int .i64 (r.length : Int), .int .u64 (n : Int)] w fun e w' => e = .returned (.agg (Ar .u8 (padT r n))) ∧ Below w.heap.size w w' := by
  have hz := hide Tryz.zero52
  have hb : bas r.length = 64 := if_pos hh
  have hpl := hide (pad0_len r (by omega))
  have hP0 : Hid (pad0 r = (z128.take 64 ++ r ++ z128.drop (64 + r.length)).set (64 + r.length) 128) := by rw [Hid, pad0, hb]
  have hPT : Hid (padT r n = (pad0 r).take 120 ++ lenB n 8) := rfl
  have hzl := z128_len
  have hspl : Hid ((z128.take 64 ++ r ++ z128.drop (64 + r.length)).length = 128) := by rw [Hid]; simp only [List.length_append, List.length_take, List.length_drop, hzl]; omega
  have htkr : Hid (r.take 64 = r) := List.take_of_length_le (by omega)
  have hmin : Hid (min r.length 64 = r.length) := by rw [Hid]; omega
  obtain ⟨H, hH⟩ : ∃ H, Hid (r.length = H) := ⟨_, rfl⟩
  have hHl : H < 64 := by have := unhide hH; omega
  have hH2 : H < 56 := by have := unhide hH; omega
  have H0 : Hid (Seg (((w.alloc (.cells (Ar .u8 op) 160)).alloc (.cells (Ar .u8 z128) 162)).alloc (.cells (Ar .u8 z128) 162)).drew w.heap.size 0 .u8 op) := (((Seg.fresh w 160 .u8 op).alloc _).alloc _).drew
  have H1 : Hid (Seg (((w.alloc (.cells (Ar .u8 op) 160)).alloc (.cells (Ar .u8 z128) 162)).alloc (.cells (Ar .u8 z128) 162)).drew (w.heap.size + 1) 0 .u8 z128) := by
    have := ((Seg.fresh (w.alloc (.cells (Ar .u8 op) 160)) 162 .u8 z128).alloc (.cells (Ar .u8 z128) 162)).drew
    simpa [Hid] using this
  have H2 : Hid (Seg (((w.alloc (.cells (Ar .u8 op) 160)).alloc (.cells (Ar .u8 z128) 162)).alloc (.cells (Ar .u8 z128) 162)).drew (w.heap.size + 1 + 1) 0 .u8 z128) := by
    have := (Seg.fresh ((w.alloc (.cells (Ar .u8 op) 160)).alloc (.cells (Ar .u8 z128) 162)) 162 .u8 z128).drew
    simpa [Hid] using this
  have HW : Hid (Fr (fun _ => False) w (((w.alloc (.cells (Ar .u8 op) 160)).alloc (.cells (Ar .u8 z128) 162)).alloc (.cells (Ar .u8 z128) 162)).drew) := ((((Fr.refl _ w).alloc _).alloc _).alloc _).drew
  have hRd : Hid (Rd (((w.alloc (.cells (Ar .u8 op) 160)).alloc (.cells (Ar .u8 z128) 162)).alloc (.cells (Ar .u8 z128) 162)).drew (.slice (some ⟨w.heap.size, 0, none⟩) H 64) r) := by
    have := (unhide H0).rd r.length 64 (by omega) (by omega) (by unfold maxLen; omega) (World.block_lt_of_cell? _ _ ((unhide H0).cell 0 (by omega)))
    rw [hr, unhide hH] at this
    exact this
  have HS : Hid (Seg ((((w.alloc (.cells (Ar .u8 op) 160)).alloc (.cells (Ar .u8 z128) 162)).alloc (.cells (Ar .u8 z128) 162)).drew.setCells (w.heap.size + 1 + 1) 64 (r.map (Value.int .u8))) (w.heap.size + 1 + 1) 0 .u8 (z128.take 64 ++ r ++ z128.drop (64 + r.length))) := by
    have := (unhide H2).splice 64 r (by rw [hzl]; omega)
    simp only [Nat.zero_add] at this
    exact this
  have HS1 : Hid (Seg ((((w.alloc (.cells (Ar .u8 op) 160)).alloc (.cells (Ar .u8 z128) 162)).alloc (.cells (Ar .u8 z128) 162)).drew.setCells (w.heap.size + 1 + 1) 64 (r.map (Value.int .u8))) (w.heap.size + 1) 0 .u8 z128) := (unhide H1).apart _ _ _ (.inl (by omega))
  have HT : Hid ((((w.alloc (.cells (Ar .u8 op) 160)).alloc (.cells (Ar .u8 z128) 162)).alloc (.cells (Ar .u8 z128) 162)).drew.there (w.heap.size + 1 + 1) 64 H) := fun j hj => by
    have := (unhide H2).2 (64 + j) (by rw [hzl]; omega)
    rw [Nat.zero_add] at this
    exact this
  have HF : Hid (Fr (fun _ => False) w ((((w.alloc (.cells (Ar .u8 op) 160)).alloc (.cells (Ar .u8 z128) 162)).alloc (.cells (Ar .u8 z128) 162)).drew.setCells (w.heap.size + 1 + 1) 64 (r.map (Value.int .u8)))) := Fr.setCells _ (.inl (by omega)) _ _ (unhide HW)
  rw [unhide hH] at hP0 hspl hmin HS ⊢
  clear ho hr hb hh 
  have i1 : (0 : Int) ≤ (H : Int) := by omega
  have i2 : (H : Int) < 64 := by omega
  have i4 : (H : Int) ≤ 64 := by omega
  have i5 : H ≤ 64 := by omega
  have i3 : (H : Int) + 1 ≤ 56 := by omega
  go_enter Tryz.func95, Tryz.ntmps95
  go_wp2_with (first | (refine wpList_alloc_ar rfl 162 rfl (Ar .u8 z128) 128 (unhide hz) ?_))
  go_region_law ((refine step_copy_ar rfl _ _ rfl (w.heap.size + 1 + 1) 64 64 64 (by rfl) (.slice (some ⟨w.heap.size, 0, none⟩) H 64) r (by rfl) (unhide hRd) (by rw [unhide hH, unhide hmin]; exact unhide HT) ?_; rw [unhide hH, unhide hmin, unhide htkr]))
  generalize (((w.alloc (.cells (Ar .u8 op) 160)).alloc (.cells (Ar .u8 z128) 162)).alloc (.cells (Ar .u8 z128) 162)).drew.setCells (w.heap.size + 1 + 1) 64 (r.map (Value.int .u8)) = w1 at *
  generalize z128.take 64 ++ r ++ z128.drop (64 + H) = T1 at *
  have hc1 := (unhide HS).cell (64 + H) (by rw [unhide hspl]; omega)
  have hf1 := (unhide HS).frz (64 + H) (by rw [unhide hspl]; omega)
  rw [Nat.zero_add] at hc1 hf1
  have HG : Hid (Seg (w1.setCell ⟨w.heap.size + 1 + 1, 64 + H, none⟩ (.int .u8 128)) (w.heap.size + 1 + 1) 0 .u8 (pad0 r)) := by
    have := (unhide HS).set (64 + H) (by rw [unhide hspl]; omega) 128
    rw [Nat.zero_add, ← unhide hP0] at this
    exact this
  have HG1 : Hid (Seg (w1.setCell ⟨w.heap.size + 1 + 1, 64 + H, none⟩ (.int .u8 128)) (w.heap.size + 1) 0 .u8 z128) := (unhide HS1).other _ _ (.inl (by simp))
  have HGF : Hid (Fr (fun _ => False) w (w1.setCell ⟨w.heap.size + 1 + 1, 64 + H, none⟩ (.int .u8 128))) := (unhide HF).setCell _ (.inl (by simp; omega)) _
  generalize T1.getD (64 + H) 0 = o0 at *
  go_wp2
  go_loopg [23] 8 (fun k s wr => ∃ (i : Nat), Hid (i + k = 8) ∧ i ≤ 8 ∧ s = .int .i64 (i : Int) ∧ Hid (Seg wr (w.heap.size + 1) 0 .u8 z128 ∧ Seg wr (w.heap.size + 1 + 1) 0 .u8 ((pad0 r).take (128 - i) ++ lenB n i) ∧ Fr (fun _ => False) w wr))
  case atStart => exact ⟨0, by unfold Hid; omega, by omega, rfl, unhide HG1, by rw [List.take_of_length_le (by rw [unhide hpl]; omega), lenB, List.append_nil]; exact unhide HG, unhide HGF⟩
  case round =>
    obtain ⟨i, hi, hi8, rfl, hGG⟩ := hrel
    by_cases hlt : i < 8
    · have hlen : ((pad0 r).take (128 - i) ++ lenB n i).length = 128 := by rw [List.length_append, List.length_take, unhide hpl, lenB_len]; omega
      have hcx := (unhide hGG).2.1.cell (127 - i) (by rw [hlen]; omega)
      have hfx := (unhide hGG).2.1.frz (127 - i) (by rw [hlen]; omega)
      have hnew := hide ((unhide hGG).2.1.set (127 - i) (by rw [hlen]; omega) (((n * 8 / 2 ^ (8 * i) % 256 : Nat) : Int)))
      rw [pad_step (pad0 r) n i (unhide hpl) hlt] at hnew
      rw [Nat.zero_add] at hcx hfx hnew
      generalize ((pad0 r).take (128 - i) ++ lenB n i).getD (127 - i) 0 = ox at *
      obtain ⟨q, hq⟩ : ∃ q, Hid (127 - i = q) := ⟨_, rfl⟩
      rw [unhide hq] at hcx hfx hnew
      have e1 : (63 : Int) - (i : Int) = ((q - 64 : Nat) : Int) := by have := unhide hq; omega
      have e2 : 64 + (q - 64) = q := by have := unhide hq; omega
      have e3 : (n : Int) * 8 < 18446744073709551616 := by omega
      have e4 : q - 64 < 64 := by have := unhide hq; omega
      have e5 : (((n : Int) * 8) / 2 ^ (8 * i)) % 256 = ((n * 8 / 2 ^ (8 * i) % 256 : Nat) : Int) := by
        rw [Int.natCast_emod, Int.natCast_ediv, Int.natCast_pow, Int.natCast_mul]; rfl
      generalize ((n * 8 / 2 ^ (8 * i) % 256 : Nat) : Int) = y at *
      have i6 : (i : Int) < 8 := by omega
      have i7 : (0 : Int) ≤ (i : Int) := by omega
      go_wp2
      go_roundg (gk - 1)
      case measure => have := unhide hi; omega
      case rel => exact ⟨i + 1, by have := unhide hi; unfold Hid; omega, by omega, by go_num, (unhide hGG).1.other _ _ (.inl (by simp)), unhide hnew, (unhide hGG).2.2.setCell _ (.inl (by simp; omega)) _⟩
    · obtain rfl : i = 8 := by omega
      have hS2 := (unhide hGG).2.1
      rw [show 128 - 8 = 120 from rfl, ← unhide hPT] at hS2
      have hln : Hid ((padT r n).length = 128) := by rw [Hid, unhide hPT, List.length_append, List.length_take, unhide hpl, lenB_len]; omega
      have HS2 := hide hS2
      have HT1 : Hid (wr.there (w.heap.size + 1) 0 128) := by have := (unhide hGG).1.2; rwa [hzl] at this
      have HFF := hide (unhide hGG).2.2
      clear hS2 hGG
      obtain ⟨ts, hts⟩ : ∃ ts, Hid (padT r n = ts) := ⟨_, rfl⟩
      rw [unhide hts] at hln HS2
      go_wp2_with (first | (refine wpList_load_ar rfl 162 _ rfl (w.heap.size + 1 + 1) 0 rfl .u8 ts _ 128 (unhide HS2) (unhide hln) Tryz.underlying162 rfl Tryz.info162 ?_) | (refine wpList_store_ar rfl 162 _ _ rfl (w.heap.size + 1) 0 rfl .u8 ts 128 rfl (unhide hln) (unhide HT1) Tryz.info162 ?_))
      have hs := Seg.stored (k := .u8) ts (by rw [unhide hln]; exact unhide HT1)
      refine bodyPost_ret (v := .agg (Ar .u8 ts)) ?_ rfl ⟨by rw [unhide hts], ?_⟩
      · rw [results_cell_one rfl]
        have hld := run_loadVar_ar (P := Tryz.prog) _ (w.heap.size + 1) 0 162 .u8 ts _ 128 hs (unhide hln) Tryz.underlying162 rfl Tryz.info162
        exact hld
      · have F := Fr.setCells (S := fun _ => False) (a := w) (w.heap.size + 1) (.inl (by omega)) (ts.map (Value.int .u8)) 0 (unhide HFF)
        exact F.below (Nat.le_refl _) (by simp)

set_option maxHeartbeats 1600000 in
set_option maxRecDepth 100000 in
theorem padded_hi (op r : List Int) (n : Nat) (ho : op.length = 64) (hr : op.take r.length = r) (hh : 56 ≤ r.length) (hh2 : r.length < 64) (hn : n < 1152921504606846976) (w : World) :
    Calls Tryz.prog 95 #[.agg (Ar .u8 op), .int .i64 (r.length : Int), .int .u64 (n : Int)] w fun e w' => e = .returned (.agg (Ar .u8 (padT r n))) ∧ Below w.heap.size w w' := by
  have hz := hide Tryz.zero52
  have hb : bas r.length = 0 := if_neg (by omega)
  have hpl := hide (pad0_len r (by omega))
  have hP0 : Hid (pad0 r = (z128.take 0 ++ r ++ z128.drop (r.length)).set (r.length) 128) := by rw [Hid, pad0, hb]; simp only [Nat.zero_add]
  have hPT : Hid (padT r n = (pad0 r).take 120 ++ lenB n 8) := rfl
  have hzl := z128_len
  have hspl : Hid ((z128.take 0 ++ r ++ z128.drop (r.length)).length = 128) := by rw [Hid]; simp only [List.length_append, List.length_take, List.length_drop, hzl]; omega
  have htkr : Hid (r.take 64 = r) := List.take_of_length_le (by omega)
  have hmin : Hid (min r.length 64 = r.length) := by rw [Hid]; omega
  obtain ⟨H, hH⟩ : ∃ H, Hid (r.length = H) := ⟨_, rfl⟩
  have hHl : H < 64 := by have := unhide hH; omega
  have hH2 : 56 ≤ H := by have := unhide hH; omega
  have H0 : Hid (Seg (((w.alloc (.cells (Ar .u8 op) 160)).alloc (.cells (Ar .u8 z128) 162)).alloc (.cells (Ar .u8 z128) 162)).drew w.heap.size 0 .u8 op) := (((Seg.fresh w 160 .u8 op).alloc _).alloc _).drew
  have H1 : Hid (Seg (((w.alloc (.cells (Ar .u8 op) 160)).alloc (.cells (Ar .u8 z128) 162)).alloc (.cells (Ar .u8 z128) 162)).drew (w.heap.size + 1) 0 .u8 z128) := by
    have := ((Seg.fresh (w.alloc (.cells (Ar .u8 op) 160)) 162 .u8 z128).alloc (.cells (Ar .u8 z128) 162)).drew
    simpa [Hid] using this
  have H2 : Hid (Seg (((w.alloc (.cells (Ar .u8 op) 160)).alloc (.cells (Ar .u8 z128) 162)).alloc (.cells (Ar .u8 z128) 162)).drew (w.heap.size + 1 + 1) 0 .u8 z128) := by
    have := (Seg.fresh ((w.alloc (.cells (Ar .u8 op) 160)).alloc (.cells (Ar .u8 z128) 162)) 162 .u8 z128).drew
    simpa [Hid] using this
  have HW : Hid (Fr (fun _ => False) w (((w.alloc (.cells (Ar .u8 op) 160)).alloc (.cells (Ar .u8 z128) 162)).alloc (.cells (Ar .u8 z128) 162)).drew) := ((((Fr.refl _ w).alloc _).alloc _).alloc _).drew
  have hRd : Hid (Rd (((w.alloc (.cells (Ar .u8 op) 160)).alloc (.cells (Ar .u8 z128) 162)).alloc (.cells (Ar .u8 z128) 162)).drew (.slice (some ⟨w.heap.size, 0, none⟩) H 64) r) := by
    have := (unhide H0).rd r.length 64 (by omega) (by omega) (by unfold maxLen; omega) (World.block_lt_of_cell? _ _ ((unhide H0).cell 0 (by omega)))
    rw [hr, unhide hH] at this
    exact this
  have HS : Hid (Seg ((((w.alloc (.cells (Ar .u8 op) 160)).alloc (.cells (Ar .u8 z128) 162)).alloc (.cells (Ar .u8 z128) 162)).drew.setCells (w.heap.size + 1 + 1) 0 (r.map (Value.int .u8))) (w.heap.size + 1 + 1) 0 .u8 (z128.take 0 ++ r ++ z128.drop (r.length))) := by
    have := (unhide H2).splice 0 r (by rw [hzl]; omega)
    simp only [Nat.zero_add] at this
    exact this
  have HS1 : Hid (Seg ((((w.alloc (.cells (Ar .u8 op) 160)).alloc (.cells (Ar .u8 z128) 162)).alloc (.cells (Ar .u8 z128) 162)).drew.setCells (w.heap.size + 1 + 1) 0 (r.map (Value.int .u8))) (w.heap.size + 1) 0 .u8 z128) := (unhide H1).apart _ _ _ (.inl (by omega))
  have HT : Hid ((((w.alloc (.cells (Ar .u8 op) 160)).alloc (.cells (Ar .u8 z128) 162)).alloc (.cells (Ar .u8 z128) 162)).drew.there (w.heap.size + 1 + 1) 0 H) := fun j hj => by
    have := (unhide H2).2 (0 + j) (by rw [hzl]; omega)
    rw [Nat.zero_add] at this
    exact this
  have HF : Hid (Fr (fun _ => False) w ((((w.alloc (.cells (Ar .u8 op) 160)).alloc (.cells (Ar .u8 z128) 162)).alloc (.cells (Ar .u8 z128) 162)).drew.setCells (w.heap.size + 1 + 1) 0 (r.map (Value.int .u8)))) := Fr.setCells _ (.inl (by omega)) _ _ (unhide HW)
  rw [unhide hH] at hP0 hspl hmin HS ⊢
  clear ho hr hb hh hh2
  have i1 : (0 : Int) ≤ (H : Int) := by omega
  have i2 : (H : Int) < 64 := by omega
  have i4 : (H : Int) ≤ 64 := by omega
  have i5 : H ≤ 64 := by omega
  have i3 : (56 : Int) < (H : Int) + 1 := by omega
  go_enter Tryz.func95, Tryz.ntmps95
  go_wp2_with (first | (refine wpList_alloc_ar rfl 162 rfl (Ar .u8 z128) 128 (unhide hz) ?_))
  go_region_law ((refine step_copy_ar rfl _ _ rfl (w.heap.size + 1 + 1) 0 64 64 (by rfl) (.slice (some ⟨w.heap.size, 0, none⟩) H 64) r (by rfl) (unhide hRd) (by rw [unhide hH, unhide hmin]; exact unhide HT) ?_; rw [unhide hH, unhide hmin, unhide htkr]))
  generalize (((w.alloc (.cells (Ar .u8 op) 160)).alloc (.cells (Ar .u8 z128) 162)).alloc (.cells (Ar .u8 z128) 162)).drew.setCells (w.heap.size + 1 + 1) 0 (r.map (Value.int .u8)) = w1 at *
  generalize z128.take 0 ++ r ++ z128.drop (H) = T1 at *
  have hc1 := (unhide HS).cell (H) (by rw [unhide hspl]; omega)
  have hf1 := (unhide HS).frz (H) (by rw [unhide hspl]; omega)
  rw [Nat.zero_add] at hc1 hf1
  have HG : Hid (Seg (w1.setCell ⟨w.heap.size + 1 + 1, H, none⟩ (.int .u8 128)) (w.heap.size + 1 + 1) 0 .u8 (pad0 r)) := by
    have := (unhide HS).set (H) (by rw [unhide hspl]; omega) 128
    rw [Nat.zero_add, ← unhide hP0] at this
    exact this
  have HG1 : Hid (Seg (w1.setCell ⟨w.heap.size + 1 + 1, H, none⟩ (.int .u8 128)) (w.heap.size + 1) 0 .u8 z128) := (unhide HS1).other _ _ (.inl (by simp))
  have HGF : Hid (Fr (fun _ => False) w (w1.setCell ⟨w.heap.size + 1 + 1, H, none⟩ (.int .u8 128))) := (unhide HF).setCell _ (.inl (by simp; omega)) _
  generalize T1.getD (H) 0 = o0 at *
  go_wp2
  go_loopg [23] 8 (fun k s wr => ∃ (i : Nat), Hid (i + k = 8) ∧ i ≤ 8 ∧ s = .int .i64 (i : Int) ∧ Hid (Seg wr (w.heap.size + 1) 0 .u8 z128 ∧ Seg wr (w.heap.size + 1 + 1) 0 .u8 ((pad0 r).take (128 - i) ++ lenB n i) ∧ Fr (fun _ => False) w wr))
  case atStart => exact ⟨0, by unfold Hid; omega, by omega, rfl, unhide HG1, by rw [List.take_of_length_le (by rw [unhide hpl]; omega), lenB, List.append_nil]; exact unhide HG, unhide HGF⟩
  case round =>
    obtain ⟨i, hi, hi8, rfl, hGG⟩ := hrel
    by_cases hlt : i < 8
    · have hlen : ((pad0 r).take (128 - i) ++ lenB n i).length = 128 := by rw [List.length_append, List.length_take, unhide hpl, lenB_len]; omega
      have hcx := (unhide hGG).2.1.cell (127 - i) (by rw [hlen]; omega)
      have hfx := (unhide hGG).2.1.frz (127 - i) (by rw [hlen]; omega)
      have hnew := hide ((unhide hGG).2.1.set (127 - i) (by rw [hlen]; omega) (((n * 8 / 2 ^ (8 * i) % 256 : Nat) : Int)))
      rw [pad_step (pad0 r) n i (unhide hpl) hlt] at hnew
      rw [Nat.zero_add] at hcx hfx hnew
      generalize ((pad0 r).take (128 - i) ++ lenB n i).getD (127 - i) 0 = ox at *
      obtain ⟨q, hq⟩ : ∃ q, Hid (127 - i = q) := ⟨_, rfl⟩
      rw [unhide hq] at hcx hfx hnew
      have e1 : (63 : Int) - (i : Int) = ((q - 64 : Nat) : Int) := by have := unhide hq; omega
      have e2 : 64 + (q - 64) = q := by have := unhide hq; omega
      have e3 : (n : Int) * 8 < 18446744073709551616 := by omega
      have e4 : q - 64 < 64 := by have := unhide hq; omega
      have e5 : (((n : Int) * 8) / 2 ^ (8 * i)) % 256 = ((n * 8 / 2 ^ (8 * i) % 256 : Nat) : Int) := by
        rw [Int.natCast_emod, Int.natCast_ediv, Int.natCast_pow, Int.natCast_mul]; rfl
      generalize ((n * 8 / 2 ^ (8 * i) % 256 : Nat) : Int) = y at *
      have i6 : (i : Int) < 8 := by omega
      have i7 : (0 : Int) ≤ (i : Int) := by omega
      go_wp2
      go_roundg (gk - 1)
      case measure => have := unhide hi; omega
      case rel => exact ⟨i + 1, by have := unhide hi; unfold Hid; omega, by omega, by go_num, (unhide hGG).1.other _ _ (.inl (by simp)), unhide hnew, (unhide hGG).2.2.setCell _ (.inl (by simp; omega)) _⟩
    · obtain rfl : i = 8 := by omega
      have hS2 := (unhide hGG).2.1
      rw [show 128 - 8 = 120 from rfl, ← unhide hPT] at hS2
      have hln : Hid ((padT r n).length = 128) := by rw [Hid, unhide hPT, List.length_append, List.length_take, unhide hpl, lenB_len]; omega
      have HS2 := hide hS2
      have HT1 : Hid (wr.there (w.heap.size + 1) 0 128) := by have := (unhide hGG).1.2; rwa [hzl] at this
      have HFF := hide (unhide hGG).2.2
      clear hS2 hGG
      obtain ⟨ts, hts⟩ : ∃ ts, Hid (padT r n = ts) := ⟨_, rfl⟩
      rw [unhide hts] at hln HS2
      go_wp2_with (first | (refine wpList_load_ar rfl 162 _ rfl (w.heap.size + 1 + 1) 0 rfl .u8 ts _ 128 (unhide HS2) (unhide hln) Tryz.underlying162 rfl Tryz.info162 ?_) | (refine wpList_store_ar rfl 162 _ _ rfl (w.heap.size + 1) 0 rfl .u8 ts 128 rfl (unhide hln) (unhide HT1) Tryz.info162 ?_))
      have hs := Seg.stored (k := .u8) ts (by rw [unhide hln]; exact unhide HT1)
      refine bodyPost_ret (v := .agg (Ar .u8 ts)) ?_ rfl ⟨by rw [unhide hts], ?_⟩
      · rw [results_cell_one rfl]
        have hld := run_loadVar_ar (P := Tryz.prog) _ (w.heap.size + 1) 0 162 .u8 ts _ 128 hs (unhide hln) Tryz.underlying162 rfl Tryz.info162
        exact hld
      · have F := Fr.setCells (S := fun _ => False) (a := w) (w.heap.size + 1) (.inl (by omega)) (ts.map (Value.int .u8)) 0 (unhide HFF)
        exact F.below (Nat.le_refl _) (by simp)
theorem padded_any (op r : List Int) (n : Nat) (ho : op.length = 64) (hr : op.take r.length = r) (hl : r.length < 64) (hn : n < 1152921504606846976) (w : World) :
    Calls Tryz.prog 95 #[.agg (Ar .u8 op), .int .i64 (r.length : Int), .int .u64 (n : Int)] w fun e w' => e = .returned (.agg (Ar .u8 (padT r n))) ∧ Below w.heap.size w w' := by
  by_cases h : r.length < 56
  · exact padded_lo op r n ho hr h hn w
  · exact padded_hi op r n ho hr (by omega) hl hn w


/-- A hash at block p. -/
structure Hs (w : World) (p : Nat) (v op : List Int) (n : Nat) (tl dg : List Int) : Prop where
  wds : Seg w p 0 .u32 v
  opn : Seg w p 8 .u8 op
  cnt : Seg w p 72 .u64 [(n : Int)]
  til : Seg w p 73 .u8 tl
  dgs : Seg w p 201 .u8 dg
  lv : v.length = 8
  lo : op.length = 64
  lt : tl.length = 128
  ld : dg.length = 32
  bo : BOk op
theorem Hs.keepB {w w' : World} {p : Nat} {v op : List Int} {n : Nat} {tl dg : List Int} (h : Hs w p v op n tl dg) (hb : w'.heap[p]? = w.heap[p]?) : Hs w' p v op n tl dg :=
  ⟨h.wds.keepB hb, h.opn.keepB hb, h.cnt.keepB hb, h.til.keepB hb, h.dgs.keepB hb, h.lv, h.lo, h.lt, h.ld, h.bo⟩
theorem Hs.lt' {w : World} {p : Nat} {v op : List Int} {n : Nat} {tl dg : List Int} (h : Hs w p v op n tl dg) : p < w.heap.size := World.block_lt_of_cell? _ _ (h.cnt.cell 0 (by simp))
theorem Seg.of_block {w : World} {b : Nat} {C : Array Value} {t : TypeId} (hb : w.heap[b]? = some (.cells C t)) (k : IntKind) (A : List Value) (xs : List Int) (B : List Value) (hC : C.toList = A ++ (xs.map (Value.int k) ++ B)) : Seg w b A.length k xs := by
  have hcell : ∀ j v, (xs.map (Value.int k))[j]? = some v → w.cell? ⟨b, A.length + j, none⟩ = some v := fun j v hv => by
    rw [cell_of_row w b (A.length + j) C t (0, 0) hb, ← Array.getElem?_toList, hC, List.getElem?_append_right (by omega), Nat.add_sub_cancel_left, List.getElem?_append_left (List.getElem?_eq_some_iff.1 hv).1]
    exact hv
  refine ⟨hcell, fun j hj => ⟨?_, ?_⟩⟩
  · rw [hcell j (.int k (xs.getD j 0)) (by simp [List.getD, hj])]; rfl
  · unfold World.frozen?; rw [hb]; simp

def hash0 : List Value := iv.map (Value.int .u32) ++ (z64.map (Value.int .u8) ++ ([Value.int .u64 0] ++ (z128.map (Value.int .u8) ++ z32.map (Value.int .u8))))
theorem build56 (w : World) : (Instr.build 166 #[(0, .agg (Ar .u32 iv))]).run Tryz.prog w = .ok (.agg hash0.toArray) w := by kernel_rfl
theorem hash0_ok {w : World} {p : Nat} (hb : w.heap[p]? = some (.cells hash0.toArray 166)) : Hs w p iv z64 0 z128 z32 := by
  have hz : (z128.map (Value.int .u8)).length = 128 := by rw [List.length_map]; exact z128_len
  refine ⟨?_, ?_, ?_, ?_, ?_, rfl, rfl, z128_len, rfl, ?_⟩
  · exact Seg.of_block hb .u32 [] iv _ rfl
  · exact Seg.of_block hb .u8 (iv.map (Value.int .u32)) z64 _ rfl
  · have := Seg.of_block hb .u64 (iv.map (Value.int .u32) ++ z64.map (Value.int .u8)) [((0 : Nat) : Int)] (z128.map (Value.int .u8) ++ z32.map (Value.int .u8)) (by show hash0 = _; simp [hash0])
    exact this
  · have := Seg.of_block hb .u8 (iv.map (Value.int .u32) ++ z64.map (Value.int .u8) ++ [Value.int .u64 0]) z128 (z32.map (Value.int .u8)) (by show hash0 = _; simp [hash0])
    exact this
  · have := Seg.of_block hb .u8 (iv.map (Value.int .u32) ++ z64.map (Value.int .u8) ++ [Value.int .u64 0] ++ z128.map (Value.int .u8)) z32 [] (by show hash0 = _; simp [hash0])
    rw [List.length_append, hz] at this
    exact this
  · intro b hb; have := List.eq_of_mem_replicate hb; omega

theorem build56m (a : Act) (x : Operand) (hx : a.eval x = .agg (Ar .u32 iv)) (w : World) : (Instr.build 166 ((#[(0, x)] : Array (Nat × Operand)).map fun (i, x) => (i, a.eval x))).run Tryz.prog w = .ok (.agg hash0.toArray) w := by
  simp only [List.map_toArray, List.map_cons, List.map_nil, hx]; exact build56 w

set_option maxHeartbeats 1600000 in
set_option maxRecDepth 100000 in
theorem new_any (w : World) : Calls Tryz.prog 53 #[] w fun e w' => ∃ p, e = .returned (.pointer (some ⟨p, 0, none⟩)) ∧ w.heap.size ≤ p ∧ Hs w' p iv z64 0 z128 z32 ∧ Below w.heap.size w w' := by
  go_enter Tryz.func53, Tryz.ntmps53
  go_wp2_with fail
  refine (start_any _).mono ?_
  rintro e w1 ⟨rfl, hb1⟩
  have HB := hide hb1
  clear hb1
  obtain ⟨C, hC⟩ : ∃ C, Hid (hash0.toArray = C) := ⟨_, rfl⟩
  go_wp2_with (first | (refine wpList_build rfl 166 _ rfl (.agg C) (by rw [← unhide hC]; exact build56m _ _ rfl _) ?_))
  go_ret
  refine ⟨w1.heap.size, rfl, (unhide HB).size, ?_, (unhide HB).alloc (unhide HB).size _⟩
  refine hash0_ok ?_
  rw [unhide hC]
  exact heap_alloc_last w1 _
end Go.Proofs.YtlogmdldjmkkjaaGreatDoor.dg
