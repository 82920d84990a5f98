/-
  Sum of a hash: the walk.
-/
import Derived.Test.YtlogmdldjmkkjaaGreatDoorHSum
namespace Go.Proofs.YtlogmdldjmkkjaaGreatDoor.dg
open Go.RowKit

/-- What a call of Sum keeps on its way. -/
structure SK (w0 : World) (p pr : Nat) (v op : List Int) (n : Nat) (tl dg : List Int) (w : World) : Prop where
  hs : Hs w p v op n tl dg
  th : w.there pr 0 32
  kt : KT w
  fr : Fr (fun _ => False) w0 w
  lt : p < w0.heap.size
  lr : pr < w.heap.size
  lq : w0.heap.size ≤ pr
theorem SK.lqq {w0 w : World} {p pr : Nat} {v op : List Int} {n : Nat} {tl dg : List Int} (h : SK w0 p pr v op n tl dg w) : w0.heap.size ≤ pr := h.lq
theorem step_alloc_ar {P : Program} {ops : Array Oper} {op : Oper} {a : Act} {w : World} {K : Act → World → Prop} {Q : Exit → Act → World → Prop} {E : Prop} (hgd : op.guard = none) (ty : TypeId) (ho : op.op = .alloc ty)
    (cs : Array Value) (n : Nat) (hi : (P.info? ty).map (fun i => (i.zero, i.size)) = some (some (.agg cs), n))
    (h : K (a.put op.dst (.pointer (some ⟨w.heap.size, 0, none⟩))) (w.alloc (.cells cs ty))) : if Region.wanted op (yielded ops a.tmps) = true then Oper.wp P op a w K Q else E := by
  rw [if_pos (by simp [Region.wanted, hgd])]
  have hz := (zero_of_info hi).1
  unfold Oper.wp execOp
  simp only [ho, Instr.alloc, newVar, newRow, newObj, Sem.run_bind, Sem.run_pure, Result.andThen_ok, hz, Value.cells]
  exact h
theorem step_store_ar {P : Program} {ops : Array Oper} {op : Oper} {a : Act} {w : World} {K : Act → World → Prop} {Q : Exit → Act → World → Prop} {E : Prop} (hgd : op.guard = none) (ty : TypeId) (x y : Operand) (ho : op.op = .store ty x y)
    (b o : Nat) (hx : a.eval x = .pointer (some ⟨b, o, none⟩)) (k : IntKind) (ys : List Int) (n : Nat) (hy : a.eval y = .agg (Ar k ys)) (hn : ys.length = n)
    (ht : w.there b o n) (hi : (P.info? ty).map (·.size) = some n)
    (h : K (a.put op.dst undef) (w.setCells b o (ys.map (Value.int k)))) : if Region.wanted op (yielded ops a.tmps) = true then Oper.wp P op a w K Q else E := by
  rw [if_pos (by simp [Region.wanted, hgd])]
  exact wp_store_mid ty x y ho b o (Ar k ys) hx hy (by rw [Ar_size, hn]; exact ht) (by rw [hi, Ar_size, hn]) (Ar_one k ys) h
theorem SK.below {w0 w w' : World} {p pr : Nat} {v op : List Int} {n : Nat} {tl dg : List Int} (h : SK w0 p pr v op n tl dg w) (b : Below w.heap.size w w') : SK w0 p pr v op n tl dg w' :=
  ⟨h.hs.keepB (b.block p (Nat.lt_of_lt_of_le h.lt h.fr.size)), fun j hj => ⟨by rw [World.cell?_of_block (w := w) (b.block pr h.lr)]; exact (h.th j hj).1, (World.frozen?_of_block (w := w) (b.block pr h.lr)).trans (h.th j hj).2⟩, h.kt.below h.kt.2 b, h.fr.trans ((Fr.of_below (S := fun _ => False) b)), h.lt, Nat.lt_of_lt_of_le h.lr b.size, h.lq⟩
theorem SK.alloc {w0 w : World} {p pr : Nat} {v op : List Int} {n : Nat} {tl dg : List Int} (h : SK w0 p pr v op n tl dg w) (o : Obj) : SK w0 p pr v op n tl dg (w.alloc o) := h.below ((Below.refl _ _).alloc (Nat.le_refl _) _)
/-- A box of a tail. -/
def TB (w : World) (pt pr : Nat) (w0 : World) : Prop := w.there pt 0 128 ∧ w0.heap.size ≤ pt ∧ pt ≠ pr ∧ pt < w.heap.size
theorem TB.below {w w' w0 : World} {pt pr : Nat} (h : TB w pt pr w0) (b : Below w.heap.size w w') : TB w' pt pr w0 :=
  ⟨fun j hj => ⟨by rw [World.cell?_of_block (w := w) (b.block pt h.2.2.2)]; exact (h.1 j hj).1, (World.frozen?_of_block (w := w) (b.block pt h.2.2.2)).trans (h.1 j hj).2⟩, h.2.1, h.2.2.1, Nat.lt_of_lt_of_le h.2.2.2 b.size⟩
theorem TB.fresh {w w0 : World} {pr : Nat} (h0 : w0.heap.size ≤ w.heap.size) (hr : pr < w.heap.size) : TB (w.alloc (.cells (Ar .u8 z128) 162)) w.heap.size pr w0 :=
  ⟨by have := (Seg.fresh w 162 .u8 z128).2; rwa [z128_len] at this, h0, by omega, by simp⟩
/-- What holds behind the first statement. -/
structure SB (w0 : World) (p pr pt : Nat) (v op : List Int) (n : Nat) (tl dg T : List Int) (w : World) : Prop where
  sk : SK w0 p pr v op n tl dg w
  sg : Seg w pt 0 .u8 T
  lq : w0.heap.size ≤ pt
  ne : pt ≠ pr
  lt : pt < w.heap.size
theorem SB.below {w0 w w' : World} {p pr pt : Nat} {v op : List Int} {n : Nat} {tl dg T : List Int} (h : SB w0 p pr pt v op n tl dg T w) (b : Below w.heap.size w w') : SB w0 p pr pt v op n tl dg T w' :=
  ⟨h.sk.below b, h.sg.keepB (b.block pt h.lt), h.lq, h.ne, Nat.lt_of_lt_of_le h.lt b.size⟩
theorem SB.made {w0 w : World} {p pr pt : Nat} {v op : List Int} {n : Nat} {tl dg T : List Int} (h : SK w0 p pr v op n tl dg w) (t : TB w pt pr w0) (hT : T.length = 128) (hp1 : 1 < p) : SB w0 p pr pt v op n tl dg T (w.setCells pt 0 (T.map (Value.int .u8))) := by
  have F := Fr.setCells (S := fun k => k = pt) (a := w) pt (.inr rfl) (T.map (Value.int .u8)) 0 (Fr.refl _ w)
  have F0 := Fr.setCells (S := fun _ => False) (a := w0) pt (.inl t.2.1) (T.map (Value.int .u8)) 0 h.fr
  have hl := h.fr.size
  have hlt := h.lt
  refine ⟨⟨h.hs.keepB (F.block p (by omega) (by have := t.2.1; omega)), World.there_setCells h.th _ _ _, ⟨fun j v hv => (World.cell?_of_block (w := w) (F.block 1 h.kt.2 (by have := t.2.1; omega))).trans (h.kt.1 j v hv), Nat.lt_of_lt_of_le h.kt.2 F.size⟩, F0, h.lt, Nat.lt_of_lt_of_le h.lr F.size, h.lq⟩, Seg.stored T (by rw [hT]; exact t.1), t.2.1, t.2.2.1, Nat.lt_of_lt_of_le t.2.2.2 F.size⟩

/-- What the statement that keeps the sum needs, and keeps. -/
structure SX (w0 : World) (p pr pt : Nat) (v op : List Int) (n : Nat) (T : List Int) (w : World) : Prop where
  wds : Seg w p 0 .u32 v
  opn : Seg w p 8 .u8 op
  cnt : Seg w p 72 .u64 [(n : Int)]
  tt : w.there p 73 160
  sg : Seg w pt 0 .u8 T
  th : w.there pr 0 32
  kt : KT w
  fr : Fr (fun k => k = p) w0 w
  lt : p < w0.heap.size
  lr : pr < w.heap.size
  lq : w0.heap.size ≤ pr
  lp : pt < w.heap.size
  lpq : w0.heap.size ≤ pt
theorem there_keep {w w' : World} {b o n : Nat} (h : w.there b o n) (hb : w'.heap[b]? = w.heap[b]?) : w'.there b o n := fun j hj => ⟨by rw [World.cell?_of_block (w := w) hb]; exact (h j hj).1, (World.frozen?_of_block (w := w) hb).trans (h j hj).2⟩
theorem SX.below {w0 w w' : World} {p pr pt : Nat} {v op : List Int} {n : Nat} {T : List Int} (h : SX w0 p pr pt v op n T w) (b : Below w.heap.size w w') : SX w0 p pr pt v op n T w' := by
  have hp := b.block p (Nat.lt_of_lt_of_le h.lt h.fr.size)
  exact ⟨h.wds.keepB hp, h.opn.keepB hp, h.cnt.keepB hp, there_keep h.tt hp, h.sg.keepB (b.block pt h.lp), there_keep h.th (b.block pr h.lr), h.kt.below h.kt.2 b, h.fr.trans (Fr.of_below (S := fun k => k = p) b), h.lt, Nat.lt_of_lt_of_le h.lr b.size, h.lq, Nat.lt_of_lt_of_le h.lp b.size, h.lpq⟩
theorem SX.of {w0 w : World} {p pr pt : Nat} {v op : List Int} {n : Nat} {tl dg T : List Int} (h : SB w0 p pr pt v op n tl dg T w) : SX w0 p pr pt v op n T w := by
  refine ⟨h.sk.hs.wds, h.sk.hs.opn, h.sk.hs.cnt, fun j hj => ?_, h.sg, h.sk.th, h.sk.kt, h.sk.fr.mono (fun _ _ h => h.elim), h.sk.lt, h.sk.lr, h.sk.lq, h.lt, h.lq⟩
  by_cases h1 : j < 128
  · exact h.sk.hs.til.2 j (by rw [h.sk.hs.lt]; exact h1)
  · have := h.sk.hs.dgs.2 (j - 128) (by rw [h.sk.hs.ld]; omega)
    rwa [show 201 + (j - 128) = 73 + j by omega] at this
/-- Behind the store of what was told. -/
theorem SX.told {w0 w : World} {p pr pt : Nat} {v op : List Int} {n : Nat} {T D : List Int} (h : SX w0 p pr pt v op n T w) (h0 : 1 < p) (hT : T.length = 128) (hD : D.length = 32) (hv : v.length = 8) (ho : op.length = 64) (hbo : BOk op) :
    SX w0 p pr pt v op n T (w.setCells p 73 ((T ++ D).map (Value.int .u8))) ∧ Hs (w.setCells p 73 ((T ++ D).map (Value.int .u8))) p v op n T D := by
  have hl : (T ++ D).length = 160 := by rw [List.length_append, hT, hD]
  have hm : ((T ++ D).map (Value.int .u8)).length = 160 := by rw [List.length_map, hl]
  have F := Fr.setCells (S := fun k => k = p) (a := w) p (.inr rfl) ((T ++ D).map (Value.int .u8)) 73 (Fr.refl _ w)
  have hst := Seg.stored (k := .u8) (w := w) (b := p) (o := 73) (T ++ D) (by rw [hl]; exact h.tt)
  have hpw := Nat.lt_of_lt_of_le h.lt h.fr.size
  have a1 := h.wds.apart p 73 ((T ++ D).map (Value.int .u8)) (.inr (.inl (by rw [hv]; omega)))
  have a2 := h.opn.apart p 73 ((T ++ D).map (Value.int .u8)) (.inr (.inl (by rw [ho]; omega)))
  have a3 := h.cnt.apart p 73 ((T ++ D).map (Value.int .u8)) (.inr (.inl (by simp)))
  have a4 := h.lpq
  have a5 := h.lt
  refine ⟨⟨a1, a2, a3, World.there_setCells h.tt _ _ _, h.sg.apart _ _ _ (.inl (by omega)), World.there_setCells h.th _ _ _, ⟨fun j v hv => (World.cell?_of_block (w := w) (F.block 1 (by omega) (by omega))).trans (h.kt.1 j v hv), Nat.lt_of_lt_of_le h.kt.2 F.size⟩, h.fr.trans (F.mono (fun _ _ h => h)), h.lt, Nat.lt_of_lt_of_le h.lr F.size, h.lq, Nat.lt_of_lt_of_le h.lp F.size, h.lpq⟩, a1, a2, a3, ?_, ?_, hv, ho, hT, hD, hbo⟩
  · have := hst.sub 0 128 (by omega)
    rwa [Nat.add_zero, List.drop_zero, List.take_append_of_le_length (by omega), List.take_of_length_le (by omega)] at this
  · have := hst.sub 128 32 (by omega)
    rw [List.drop_append_of_le_length (by omega), List.drop_of_length_le (by omega), List.nil_append, List.take_of_length_le (by omega)] at this
    exact this
theorem lenB_bok (n : Nat) : ∀ i, BOk (lenB n i)
  | 0 => fun b hb => by simp [lenB] at hb
  | i + 1 => fun b hb => by
    rw [lenB, List.mem_cons] at hb
    rcases hb with rfl | hb
    · omega
    · exact lenB_bok n i b hb
theorem padT_bok (r : List Int) (n : Nat) (h : BOk r) : BOk (padT r n) := by
  intro b hb
  unfold padT at hb
  rcases List.mem_append.1 hb with hb | hb
  · have hb := List.mem_of_mem_take hb
    unfold pad0 at hb
    have hz : ∀ x ∈ z128, x = 0 := fun x hx => List.eq_of_mem_replicate hx
    rcases List.mem_or_eq_of_mem_set hb with hb | rfl
    · rcases List.mem_append.1 hb with hb | hb
      · rcases List.mem_append.1 hb with hb | hb
        · have := hz b (List.mem_of_mem_take hb); omega
        · exact h b hb
      · have := hz b (List.mem_of_mem_drop hb); omega
    · omega
  · exact lenB_bok n 8 b hb
theorem yieldsIf_neq52 {ops : Array Oper} {S : World → Prop} {op : Oper} {a : Act} (hw : Region.wanted op (yielded ops a.tmps) = true) (x y : Operand) (ty : TypeId) (ho : op.op = .binOp .neq 162 x y ty)
    (xs ys : List Int) (hx : a.eval x = .agg (Ar .u8 xs)) (hy : a.eval y = .agg (Ar .u8 ys)) (lx : xs.length = 128) (ly : ys.length = 128) (b : Bool) (hb : (xs == ys) = b) : YieldsIf Tryz.prog ops S op (.bool (!b)) a :=
  .inl ⟨hw, fun w _ => by
    unfold execOp
    have h1 := run_eqGuard_agg (P := Tryz.prog) w .neq 162 x y (Ar .u8 xs) (Ar .u8 ys) Tryz.eqGuardType162
    have h2 := run_neq_struct (P := Tryz.prog) w 162 (Ar .u8 xs) (Ar .u8 ys)
    rw [eq52 xs ys lx ly w, hb, Result.andThen_ok] at h2
    simp only [ho, hx, hy, Sem.run_bind, h1, Result.andThen_ok, h2, Sem.run_pure]⟩
theorem yieldsIf_build54 {ops : Array Oper} {S : World → Prop} {op : Oper} {a : Act} (hw : Region.wanted op (yielded ops a.tmps) = true) (x y : Operand) (ho : op.op = .build 164 #[(0, x), (1, y)])
    (T D : List Int) (hx : a.eval x = .agg (Ar .u8 T)) (hy : a.eval y = .agg (Ar .u8 D)) (lT : T.length = 128) (lD : D.length = 32) : YieldsIf Tryz.prog ops S op (.agg (Ar .u8 (T ++ D))) a :=
  .inl ⟨hw, fun w _ => by
    unfold execOp
    simp only [ho, List.map_toArray, List.map_cons, List.map_nil, hx, hy, Sem.run_bind, build54 T D lT lD w, Result.andThen_ok, Sem.run_pure]⟩
/-- What Sum answers, and leaves. -/
def SumPost (p : Nat) (v op r : List Int) (n : Nat) (tl dg : List Int) (w : World) (e : Ending) (w' : World) : Prop :=
  e = .returned (.agg (Ar .u8 (byF (endF v (padT r n)) 32))) ∧ Fr (fun k => k = p) w w' ∧ ∃ tl' dg', Hs w' p v op n tl' dg' ∧ ((tl' = tl ∧ dg' = dg) ∨ (tl' = padT r n ∧ dg' = byF (endF v (padT r n)) 32))

set_option maxHeartbeats 40000000 in
set_option maxRecDepth 100000 in
theorem hsum_any (p : Nat) (v op r : List Int) (n : Nat) (tl dg : List Int) (w : World) (h : Hs w p v op n tl dg) (hr : op.take r.length = r) (hrl : r.length = n % 64) (hn : n < 1152921504606846976) (hK : KT w) (hp0 : 1 < p) (hBr : BOk r) (hTold : tl = padT r n → dg = byF (endF v (padT r n)) 32) :
    Calls Tryz.prog 55 #[.pointer (some ⟨p, 0, none⟩)] w fun e w' => SumPost p v op r n tl dg w e w' := by
  have hz := hide Tryz.zero24
  have hz52 := hide Tryz.zero52
  have hrl64 : r.length < 64 := by rw [hrl]; omega
  have hC1 := padded_any op r n h.lo hr hrl64 hn
  rw [hrl] at hC1
  have hC1 := hide hC1
  have HT := hide (padT_len r n hrl64)
  obtain ⟨T, hTT⟩ : ∃ T, Hid (padT r n = T) := ⟨_, rfl⟩
  obtain ⟨DG, hDG⟩ : ∃ DG, Hid (byF (endF v T) 32 = DG) := ⟨_, rfl⟩
  have HTB : Hid (BOk T) := by rw [Hid, ← unhide hTT]; exact padT_bok r n hBr
  have hSP : Hid (∀ e w', SumPost p v op r n tl dg w e w' ↔ (e = .returned (.agg (Ar .u8 DG)) ∧ Fr (fun k => k = p) w w' ∧ ∃ tl' dg', Hs w' p v op n tl' dg' ∧ ((tl' = tl ∧ dg' = dg) ∨ (tl' = T ∧ dg' = DG)))) := by
    intro e w'; unfold SumPost; rw [unhide hTT, unhide hDG]
  rw [unhide hTT] at hC1 HT hTold
  rw [unhide hDG] at hTold
  have HTold := hide hTold
  have HDL : Hid (DG.length = 32) := by rw [Hid, ← unhide hDG]; exact byF_len _ 32
  have hEL : Hid ((endF v T).length = 8) := by rw [Hid]; unfold endF; split <;> exact behF_len _ _
  have hCE := hide (fun w (hk : KT w) => end_any v T h.lv (unhide HT) (unhide HTB) w hk)
  have hCB := bytes_any (endF v T) (unhide hEL)
  rw [unhide hDG] at hCB
  have hCB := hide hCB
  have HBo := hide h.bo
  have Hp0 := hide hp0
  have hS0 : Hid (SK w p w.heap.size v op n tl dg (w.alloc (.cells (Ar .u8 z32) 30)).drew) := ⟨h.keepB (Below.heap_alloc _ _ _ h.lt'), (Seg.fresh w 30 .u8 z32).drew.2, (hK.alloc _).below (B := 2) (by omega) ((Below.refl _ _).drew), ((Fr.refl _ _).alloc _).drew, h.lt', by simp, Nat.le_refl _⟩
  have hheld := hide (fun w' (h' : SK w p w.heap.size v op n tl dg w') => held_any p n w' (h'.hs.cnt.cell 0 (by simp)))
  have HLo := hide h.lo
  have HLt := hide h.lt
  have HLv := hide h.lv
  have HLd := hide h.ld
  have H0w := hide hK.2
  clear h hK hr hrl hrl64 hBr hTold hp0
  generalize endF v T = EV at *
  generalize hpr : w.heap.size = pr at *
  go_enter Tryz.func55, Tryz.ntmps55
  go_wp2_with (first | (refine wpList_alloc_ar rfl 30 rfl (Ar .u8 z32) 32 (unhide hz) ?_))
  rw [hpr]
  generalize (w.alloc (.cells (Ar .u8 z32) 30)) = wa at *
  refine wp_region_held_drew (S := SK w p pr v op n tl dg) (by kernel_rfl) (unhide hS0) (fun hHeld => ?_)
  generalize wa.drew = wb at *
  refine wpAnyH_take (i := 0) (oi := _) (v := .pointer (some ⟨p, 0, none⟩)) rfl (by kernel_rfl) (by kernel_rfl) (by kernel_rfl) (fun _ _ _ h => h) (Or.inl ⟨by rfl, (by intro w hSw; go_simp)⟩) (by assumption) ?_
  refine wpAnyH_take (i := 1) (oi := _) (v := .pointer (some ⟨p, 0, none⟩)) rfl (by kernel_rfl) (by kernel_rfl) (by kernel_rfl) (fun _ _ _ h => h) (Or.inl ⟨by rfl, (by intro w hSw; go_simp)⟩) (by assumption) ?_
  refine wpAnyH_take (i := 2) (oi := _) (v := .pointer (some ⟨p, 8, none⟩)) rfl (by kernel_rfl) (by kernel_rfl) (by kernel_rfl) (fun _ _ _ h => h) (Or.inl ⟨by rfl, (by intro w hSw; go_simp)⟩) (by assumption) ?_
  refine wpAnyH_take (i := 3) (oi := _) (v := .agg (Ar .u8 op)) rfl (by kernel_rfl) (by kernel_rfl) (by kernel_rfl) (fun _ _ _ h => h) (yieldsIf_load_mid (by rfl) 160 _ rfl p 8 rfl (op.map (Value.int .u8)) _ (fun w h => h.hs.opn.1) Tryz.underlying160 rfl (by rw [List.length_map, unhide HLo]; exact Tryz.info160)) (by assumption) ?_
  refine wpAnyH_take (i := 4) (oi := _) (v := .pointer (some ⟨p, 0, none⟩)) rfl (by kernel_rfl) (by kernel_rfl) (by kernel_rfl) (fun _ _ _ h => h) (Or.inl ⟨by rfl, (by intro w hSw; go_simp)⟩) (by assumption) ?_
  refine wpAnyH_take (i := 6) (oi := _) (v := .pointer (some ⟨p, 0, none⟩)) rfl (by kernel_rfl) (by kernel_rfl) (by kernel_rfl) (fun _ _ _ h => h) (Or.inl ⟨by rfl, (by intro w hSw; go_simp)⟩) (by assumption) ?_
  refine wpAnyH_take (i := 7) (oi := _) (v := .pointer (some ⟨p, 0, none⟩)) rfl (by kernel_rfl) (by kernel_rfl) (by kernel_rfl) (fun _ _ _ h => h) (Or.inl ⟨by rfl, (by intro w hSw; go_simp)⟩) (by assumption) ?_
  refine wpAnyH_take (i := 8) (oi := _) (v := .pointer (some ⟨p, 72, none⟩)) rfl (by kernel_rfl) (by kernel_rfl) (by kernel_rfl) (fun _ _ _ h => h) (Or.inl ⟨by rfl, (by intro w hSw; go_simp)⟩) (by assumption) ?_
  refine wpAnyH_take (i := 9) (oi := _) (v := .int .u64 (n : Int)) rfl (by kernel_rfl) (by kernel_rfl) (by kernel_rfl) (fun _ _ _ h => h) (Or.inl ⟨by rfl, (by intro w hSw; have hcc := hSw.hs.cnt.cell 0 (by simp); simp only [Nat.add_zero, List.getD_cons_zero] at hcc; clear hSw; go_simp)⟩) (by assumption) ?_
  simp only [Act.put, List.setIfInBounds_toArray]
  refine wpAnyH_ready (rs := [5, 11]) (by kernel_rfl) (by simp) ?_
  refine AllReadyH.cons (o := _) rfl (fun K hK => ?_) ?_
  · go_simp
    refine (unhide hheld _ hHeld).mono ?_
    rintro e w' ⟨rfl, hww⟩
    have hww := hww.symm
    subst hww
    go_simp
    refine hK.out _ _ hHeld (fun hHeldx => ?_)
    clear hK K
    refine wpAnyH_ready (rs := [10, 11]) (by kernel_rfl) (by simp) ?_
    refine AllReadyH.cons (o := _) rfl (fun K hK => ?_) ?_
    · go_simp
      refine (unhide hC1 _).mono ?_
      rintro e wp ⟨rfl, hbp⟩
      have hS2 := hHeld.below hbp
      go_simp
      refine hK.out _ _ hS2 (fun hHeldx => ?_)
      clear hK K
      refine wpAnyH_ready (rs := [11]) (by kernel_rfl) (by simp) ?_
      refine AllReadyH.cons (o := _) rfl (fun K hK => ?_) AllReadyH.nil
      refine step_alloc_ar rfl 162 rfl (Ar .u8 z128) 128 (unhide hz52) ?_
      have hT2 := TB.fresh (w0 := w) (w := wp) (Nat.le_trans hS2.lqq (Nat.le_of_lt hS2.lr)) hS2.lr
      have hS3 := hS2.alloc (.cells (Ar .u8 z128) 162)
      refine hK.out _ _ hS3 (fun hHeldx => ?_)
      clear hK K
      refine wpAnyH_ready (rs := [12]) (by kernel_rfl) (by simp) ?_
      refine AllReadyH.cons (o := _) rfl (fun K hK => ?_) AllReadyH.nil
      refine step_store_ar rfl 162 _ _ rfl wp.heap.size 0 rfl .u8 T 128 rfl (unhide HT) hT2.1 Tryz.info162 ?_
      have hSB := SB.made hS3 hT2 (unhide HT) (unhide Hp0)
      refine hK.out _ _ hSB.sk (fun hHeldx => ?_)
      clear hK K
      refine wpAnyH_done (by kernel_rfl) ?_ _
      clear hS2 hT2 hS3 hbp hHeld
      generalize hwz : (wp.alloc (.cells (Ar .u8 z128) 162)).setCells wp.heap.size 0 (T.map (Value.int .u8)) = wz at *
      generalize wp.heap.size = pt at *
      clear hwz
      simp only [Act.put, List.setIfInBounds_toArray]
      go_wp2_with fail
      have hSBd : SB w p pr pt v op n tl dg T wz.drew := hSB.below ((Below.refl _ _).drew)
      refine wp_region_held_drew (S := SB w p pr pt v op n tl dg T) (by kernel_rfl) hSBd (fun hHeld2 => ?_)
      clear hSB hSBd
      generalize wz.drew = wy at *
      refine wpAnyH_take (i := 0) (oi := _) (v := .pointer (some ⟨p, 0, none⟩)) rfl (by kernel_rfl) (by kernel_rfl) (by kernel_rfl) (fun _ _ _ h => h) (Or.inl ⟨by rfl, (by intro w hSw; go_simp)⟩) (by assumption) ?_
      refine wpAnyH_take (i := 1) (oi := _) (v := .pointer (some ⟨p, 0, none⟩)) rfl (by kernel_rfl) (by kernel_rfl) (by kernel_rfl) (fun _ _ _ h => h) (Or.inl ⟨by rfl, (by intro w hSw; go_simp)⟩) (by assumption) ?_
      refine wpAnyH_take (i := 2) (oi := _) (v := .pointer (some ⟨p, 73, none⟩)) rfl (by kernel_rfl) (by kernel_rfl) (by kernel_rfl) (fun _ _ _ h => h) (Or.inl ⟨by rfl, (by intro w hSw; go_simp)⟩) (by assumption) ?_
      refine wpAnyH_take (i := 3) (oi := _) (v := .pointer (some ⟨p, 73, none⟩)) rfl (by kernel_rfl) (by kernel_rfl) (by kernel_rfl) (fun _ _ _ h => h) (Or.inl ⟨by rfl, (by intro w hSw; go_simp)⟩) (by assumption) ?_
      refine wpAnyH_take (i := 4) (oi := _) (v := .agg (Ar .u8 tl)) rfl (by kernel_rfl) (by kernel_rfl) (by kernel_rfl) (fun _ _ _ h => h) (yieldsIf_load_mid (by rfl) 162 _ rfl p 73 rfl (tl.map (Value.int .u8)) _ (fun w h => h.sk.hs.til.1) Tryz.underlying162 rfl (by rw [List.length_map, unhide HLt]; exact Tryz.info162)) (by assumption) ?_
      refine wpAnyH_take (i := 5) (oi := _) (v := .agg (Ar .u8 T)) rfl (by kernel_rfl) (by kernel_rfl) (by kernel_rfl) (fun _ _ _ h => h) (yieldsIf_load_mid (by rfl) 162 _ rfl pt 0 rfl (T.map (Value.int .u8)) _ (fun w h => h.sg.1) Tryz.underlying162 rfl (by rw [List.length_map, unhide HT]; exact Tryz.info162)) (by assumption) ?_
      by_cases hc : tl = T
      · have hq : (tl == T) = true := by rw [hc]; exact beq_self_eq_true _
        have HQ := hide hc
        refine wpAnyH_take (i := 6) (oi := _) (v := .bool (!true)) rfl (by kernel_rfl) (by kernel_rfl) (by kernel_rfl) (fun _ _ _ h => h) (yieldsIf_neq52 (by rfl) _ _ _ rfl tl T rfl rfl (unhide HLt) (unhide HT) true hq) (by assumption) ?_
        clear hc hq
        refine wpAnyH_done (by kernel_rfl) ?_ _
        go_simp
        have HB := hide hHeld2
        clear hHeld2
        go_wp2_with (first | (refine wpList_load_ar rfl 30 _ rfl p 201 rfl .u8 dg _ 32 (unhide HB).sk.hs.dgs (unhide HLd) Tryz.underlying30 rfl Tryz.info30 ?_) | (refine wpList_store_ar rfl 30 _ _ rfl pr 0 rfl .u8 dg 32 rfl (unhide HLd) (unhide HB).sk.th Tryz.info30 ?_))
        have hst := Seg.stored (k := .u8) dg (by rw [(unhide HLd)]; exact (unhide HB).sk.th)
        refine bodyPost_ret (v := .agg (Ar .u8 dg)) ?_ rfl ?_
        · rw [results_cell_one rfl]
          have hld := run_loadVar_ar (P := Tryz.prog) _ pr 0 30 .u8 dg _ 32 hst (unhide HLd) Tryz.underlying30 rfl Tryz.info30
          exact hld
        · rw [unhide hSP]
          have hb := unhide HB
          have hq1 := hb.sk.lt
          have hq2 := hb.sk.lq
          have F := Fr.setCells (S := fun k => k = pr) (a := wy) pr (.inr rfl) (dg.map (Value.int .u8)) 0 (Fr.refl _ wy)
          refine ⟨by rw [unhide HTold (unhide HQ)], Fr.setCells (S := fun k => k = p) (a := w) pr (.inl hq2) (dg.map (Value.int .u8)) 0 (hb.sk.fr.mono (fun _ _ h => h.elim)), tl, dg, hb.sk.hs.keepB (F.block p hb.sk.hs.lt' (by omega)), .inl ⟨rfl, rfl⟩⟩
      · have hq : (tl == T) = false := by rw [beq_eq_false_iff_ne]; exact hc
        refine wpAnyH_take (i := 6) (oi := _) (v := .bool (!false)) rfl (by kernel_rfl) (by kernel_rfl) (by kernel_rfl) (fun _ _ _ h => h) (yieldsIf_neq52 (by rfl) _ _ _ rfl tl T rfl rfl (unhide HLt) (unhide HT) false hq) (by assumption) ?_
        clear hc hq
        refine wpAnyH_done (by kernel_rfl) ?_ _
        go_simp
        have hSX : SX w p pr pt v op n T wy.drew := (SX.of hHeld2).below ((Below.refl _ _).drew)
        clear hHeld2
        go_wp2_with fail
        refine wp_region_held_drew (S := SX w p pr pt v op n T) (by kernel_rfl) hSX (fun hHeld3 => ?_)
        clear hSX
        generalize wy.drew = wx at *
        refine wpAnyH_take (i := 0) (oi := _) (v := .pointer (some ⟨p, 0, none⟩)) rfl (by kernel_rfl) (by kernel_rfl) (by kernel_rfl) (fun _ _ _ h => h) (Or.inl ⟨by rfl, (by intro w hSw; go_simp)⟩) (by assumption) ?_
        refine wpAnyH_take (i := 1) (oi := _) (v := .agg (Ar .u8 T)) rfl (by kernel_rfl) (by kernel_rfl) (by kernel_rfl) (fun _ _ _ h => h) (yieldsIf_load_mid (by rfl) 162 _ rfl pt 0 rfl (T.map (Value.int .u8)) _ (fun w h => h.sg.1) Tryz.underlying162 rfl (by rw [List.length_map, unhide HT]; exact Tryz.info162)) (by assumption) ?_
        refine wpAnyH_take (i := 2) (oi := _) (v := .pointer (some ⟨p, 0, none⟩)) rfl (by kernel_rfl) (by kernel_rfl) (by kernel_rfl) (fun _ _ _ h => h) (Or.inl ⟨by rfl, (by intro w hSw; go_simp)⟩) (by assumption) ?_
        refine wpAnyH_take (i := 3) (oi := _) (v := .pointer (some ⟨p, 0, none⟩)) rfl (by kernel_rfl) (by kernel_rfl) (by kernel_rfl) (fun _ _ _ h => h) (Or.inl ⟨by rfl, (by intro w hSw; go_simp)⟩) (by assumption) ?_
        refine wpAnyH_take (i := 4) (oi := _) (v := .pointer (some ⟨p, 0, none⟩)) rfl (by kernel_rfl) (by kernel_rfl) (by kernel_rfl) (fun _ _ _ h => h) (Or.inl ⟨by rfl, (by intro w hSw; go_simp)⟩) (by assumption) ?_
        refine wpAnyH_take (i := 5) (oi := _) (v := .agg (Ar .u32 v)) rfl (by kernel_rfl) (by kernel_rfl) (by kernel_rfl) (fun _ _ _ h => h) (yieldsIf_load_mid (by rfl) 157 _ rfl p 0 rfl (v.map (Value.int .u32)) _ (fun w h => h.wds.1) Tryz.underlying157 rfl (by rw [List.length_map, unhide HLv]; exact Tryz.info157)) (by assumption) ?_
        refine wpAnyH_take (i := 6) (oi := _) (v := .agg (Ar .u8 T)) rfl (by kernel_rfl) (by kernel_rfl) (by kernel_rfl) (fun _ _ _ h => h) (yieldsIf_load_mid (by rfl) 162 _ rfl pt 0 rfl (T.map (Value.int .u8)) _ (fun w h => h.sg.1) Tryz.underlying162 rfl (by rw [List.length_map, unhide HT]; exact Tryz.info162)) (by assumption) ?_
        simp only [Act.put, List.setIfInBounds_toArray]
        refine wpAnyH_ready (rs := [7]) (by kernel_rfl) (by simp) ?_
        refine AllReadyH.cons (o := _) rfl (fun K hK => ?_) AllReadyH.nil
        go_simp
        refine (unhide hCE _ hHeld3.kt).mono ?_
        rintro e wE ⟨rfl, hbE⟩
        have hS4 := hHeld3.below hbE
        go_simp
        refine hK.out _ _ hS4 (fun hHeldx => ?_)
        clear hK K
        refine wpAnyH_ready (rs := [8]) (by kernel_rfl) (by simp) ?_
        refine AllReadyH.cons (o := _) rfl (fun K hK => ?_) AllReadyH.nil
        go_simp
        refine (unhide hCB _).mono ?_
        rintro e wF ⟨rfl, hbF⟩
        have hS5 := hS4.below hbF
        go_simp
        refine hK.out _ _ hS5 (fun hHeldx => ?_)
        clear hK K
        refine wpAnyH_take (i := 9) (oi := _) (v := .agg (Ar .u8 (T ++ DG))) rfl (by kernel_rfl) (by kernel_rfl) (by kernel_rfl) (fun _ _ _ h => h) (yieldsIf_build54 (by rfl) _ _ rfl T DG rfl rfl (unhide HT) (unhide HDL)) (by assumption) ?_
        refine wpAnyH_take (i := 10) (oi := _) (v := .pointer (some ⟨p, 0, none⟩)) rfl (by kernel_rfl) (by kernel_rfl) (by kernel_rfl) (fun _ _ _ h => h) (Or.inl ⟨by rfl, (by intro w hSw; go_simp)⟩) (by assumption) ?_
        refine wpAnyH_take (i := 11) (oi := _) (v := .pointer (some ⟨p, 73, none⟩)) rfl (by kernel_rfl) (by kernel_rfl) (by kernel_rfl) (fun _ _ _ h => h) (Or.inl ⟨by rfl, (by intro w hSw; go_simp)⟩) (by assumption) ?_
        refine wpAnyH_ready (rs := [12]) (by kernel_rfl) (by simp) ?_
        refine AllReadyH.cons (o := _) rfl (fun K hK => ?_) AllReadyH.nil
        refine step_store_ar rfl 164 _ _ rfl p 73 rfl .u8 (T ++ DG) 160 rfl (by rw [List.length_append, unhide HT, unhide HDL]) hS5.tt Tryz.info164 ?_
        obtain ⟨hS6, hH6⟩ := hS5.told (D := DG) (unhide Hp0) (unhide HT) (unhide HDL) (unhide HLv) (unhide HLo) (unhide HBo)
        refine hK.out _ _ hS6 (fun hHeldx => ?_)
        clear hK K
        refine wpAnyH_done (by kernel_rfl) ?_ _
        clear hS5 hS4 hHeld3 hbE hbF
        generalize wF.setCells p 73 ((T ++ DG).map (Value.int .u8)) = wG at *
        go_simp
        have HB := hide (And.intro hS6 hH6)
        clear hS6 hH6
        go_wp2_with (first | (refine wpList_load_ar rfl 30 _ rfl p 201 rfl .u8 DG _ 32 (unhide HB).2.dgs (unhide HDL) Tryz.underlying30 rfl Tryz.info30 ?_) | (refine wpList_store_ar rfl 30 _ _ rfl pr 0 rfl .u8 DG 32 rfl (unhide HDL) (unhide HB).1.th Tryz.info30 ?_))
        have hst := Seg.stored (k := .u8) DG (by rw [(unhide HDL)]; exact (unhide HB).1.th)
        refine bodyPost_ret (v := .agg (Ar .u8 DG)) ?_ rfl ?_
        · rw [results_cell_one rfl]
          have hld := run_loadVar_ar (P := Tryz.prog) _ pr 0 30 .u8 DG _ 32 hst (unhide HDL) Tryz.underlying30 rfl Tryz.info30
          exact hld
        · rw [unhide hSP]
          have hb := unhide HB
          have hq1 := hb.1.lt
          have hq2 := hb.1.lq
          have F := Fr.setCells (S := fun k => k = pr) (a := wG) pr (.inr rfl) (DG.map (Value.int .u8)) 0 (Fr.refl _ wG)
          refine ⟨rfl, Fr.setCells (S := fun k => k = p) (a := w) pr (.inl hq2) (DG.map (Value.int .u8)) 0 hb.1.fr, T, DG, hb.2.keepB (F.block p hb.2.lt' (by omega)), .inr ⟨rfl, rfl⟩⟩
    · refine AllReadyH.cons (o := _) rfl (fun K hK => ?_) AllReadyH.nil
      refine step_alloc_ar rfl 162 rfl (Ar .u8 z128) 128 (unhide hz52) ?_
      have hT2 := TB.fresh (w0 := w) (w := wb) (Nat.le_trans hHeld.lqq (Nat.le_of_lt hHeld.lr)) hHeld.lr
      have hS3 := hHeld.alloc (.cells (Ar .u8 z128) 162)
      refine hK.out _ _ hS3 (fun hHeldx => ?_)
      clear hK K
      refine wpAnyH_ready (rs := [10]) (by kernel_rfl) (by simp) ?_
      refine AllReadyH.cons (o := _) rfl (fun K hK => ?_) AllReadyH.nil
      go_simp
      refine (unhide hC1 _).mono ?_
      rintro e wp ⟨rfl, hbp⟩
      have hS2 := hS3.below hbp
      have hT3 := hT2.below hbp
      go_simp
      refine hK.out _ _ hS2 (fun hHeldx => ?_)
      clear hK K
      refine wpAnyH_ready (rs := [12]) (by kernel_rfl) (by simp) ?_
      refine AllReadyH.cons (o := _) rfl (fun K hK => ?_) AllReadyH.nil
      refine step_store_ar rfl 162 _ _ rfl wb.heap.size 0 rfl .u8 T 128 rfl (unhide HT) hT3.1 Tryz.info162 ?_
      have hSB := SB.made hS2 hT3 (unhide HT) (unhide Hp0)
      refine hK.out _ _ hSB.sk (fun hHeldx => ?_)
      clear hK K
      refine wpAnyH_done (by kernel_rfl) ?_ _
      clear hS2 hT2 hT3 hS3 hbp hHeld
      generalize hwz : wp.setCells wb.heap.size 0 (T.map (Value.int .u8)) = wz at *
      generalize wb.heap.size = pt at *
      clear hwz
      simp only [Act.put, List.setIfInBounds_toArray]
      go_wp2_with fail
      have hSBd : SB w p pr pt v op n tl dg T wz.drew := hSB.below ((Below.refl _ _).drew)
      refine wp_region_held_drew (S := SB w p pr pt v op n tl dg T) (by kernel_rfl) hSBd (fun hHeld2 => ?_)
      clear hSB hSBd
      generalize wz.drew = wy at *
      refine wpAnyH_take (i := 0) (oi := _) (v := .pointer (some ⟨p, 0, none⟩)) rfl (by kernel_rfl) (by kernel_rfl) (by kernel_rfl) (fun _ _ _ h => h) (Or.inl ⟨by rfl, (by intro w hSw; go_simp)⟩) (by assumption) ?_
      refine wpAnyH_take (i := 1) (oi := _) (v := .pointer (some ⟨p, 0, none⟩)) rfl (by kernel_rfl) (by kernel_rfl) (by kernel_rfl) (fun _ _ _ h => h) (Or.inl ⟨by rfl, (by intro w hSw; go_simp)⟩) (by assumption) ?_
      refine wpAnyH_take (i := 2) (oi := _) (v := .pointer (some ⟨p, 73, none⟩)) rfl (by kernel_rfl) (by kernel_rfl) (by kernel_rfl) (fun _ _ _ h => h) (Or.inl ⟨by rfl, (by intro w hSw; go_simp)⟩) (by assumption) ?_
      refine wpAnyH_take (i := 3) (oi := _) (v := .pointer (some ⟨p, 73, none⟩)) rfl (by kernel_rfl) (by kernel_rfl) (by kernel_rfl) (fun _ _ _ h => h) (Or.inl ⟨by rfl, (by intro w hSw; go_simp)⟩) (by assumption) ?_
      refine wpAnyH_take (i := 4) (oi := _) (v := .agg (Ar .u8 tl)) rfl (by kernel_rfl) (by kernel_rfl) (by kernel_rfl) (fun _ _ _ h => h) (yieldsIf_load_mid (by rfl) 162 _ rfl p 73 rfl (tl.map (Value.int .u8)) _ (fun w h => h.sk.hs.til.1) Tryz.underlying162 rfl (by rw [List.length_map, unhide HLt]; exact Tryz.info162)) (by assumption) ?_
      refine wpAnyH_take (i := 5) (oi := _) (v := .agg (Ar .u8 T)) rfl (by kernel_rfl) (by kernel_rfl) (by kernel_rfl) (fun _ _ _ h => h) (yieldsIf_load_mid (by rfl) 162 _ rfl pt 0 rfl (T.map (Value.int .u8)) _ (fun w h => h.sg.1) Tryz.underlying162 rfl (by rw [List.length_map, unhide HT]; exact Tryz.info162)) (by assumption) ?_
      by_cases hc : tl = T
      · have hq : (tl == T) = true := by rw [hc]; exact beq_self_eq_true _
        have HQ := hide hc
        refine wpAnyH_take (i := 6) (oi := _) (v := .bool (!true)) rfl (by kernel_rfl) (by kernel_rfl) (by kernel_rfl) (fun _ _ _ h => h) (yieldsIf_neq52 (by rfl) _ _ _ rfl tl T rfl rfl (unhide HLt) (unhide HT) true hq) (by assumption) ?_
        clear hc hq
        refine wpAnyH_done (by kernel_rfl) ?_ _
        go_simp
        have HB := hide hHeld2
        clear hHeld2
        go_wp2_with (first | (refine wpList_load_ar rfl 30 _ rfl p 201 rfl .u8 dg _ 32 (unhide HB).sk.hs.dgs (unhide HLd) Tryz.underlying30 rfl Tryz.info30 ?_) | (refine wpList_store_ar rfl 30 _ _ rfl pr 0 rfl .u8 dg 32 rfl (unhide HLd) (unhide HB).sk.th Tryz.info30 ?_))
        have hst := Seg.stored (k := .u8) dg (by rw [(unhide HLd)]; exact (unhide HB).sk.th)
        refine bodyPost_ret (v := .agg (Ar .u8 dg)) ?_ rfl ?_
        · rw [results_cell_one rfl]
          have hld := run_loadVar_ar (P := Tryz.prog) _ pr 0 30 .u8 dg _ 32 hst (unhide HLd) Tryz.underlying30 rfl Tryz.info30
          exact hld
        · rw [unhide hSP]
          have hb := unhide HB
          have hq1 := hb.sk.lt
          have hq2 := hb.sk.lq
          have F := Fr.setCells (S := fun k => k = pr) (a := wy) pr (.inr rfl) (dg.map (Value.int .u8)) 0 (Fr.refl _ wy)
          refine ⟨by rw [unhide HTold (unhide HQ)], Fr.setCells (S := fun k => k = p) (a := w) pr (.inl hq2) (dg.map (Value.int .u8)) 0 (hb.sk.fr.mono (fun _ _ h => h.elim)), tl, dg, hb.sk.hs.keepB (F.block p hb.sk.hs.lt' (by omega)), .inl ⟨rfl, rfl⟩⟩
      · have hq : (tl == T) = false := by rw [beq_eq_false_iff_ne]; exact hc
        refine wpAnyH_take (i := 6) (oi := _) (v := .bool (!false)) rfl (by kernel_rfl) (by kernel_rfl) (by kernel_rfl) (fun _ _ _ h => h) (yieldsIf_neq52 (by rfl) _ _ _ rfl tl T rfl rfl (unhide HLt) (unhide HT) false hq) (by assumption) ?_
        clear hc hq
        refine wpAnyH_done (by kernel_rfl) ?_ _
        go_simp
        have hSX : SX w p pr pt v op n T wy.drew := (SX.of hHeld2).below ((Below.refl _ _).drew)
        clear hHeld2
        go_wp2_with fail
        refine wp_region_held_drew (S := SX w p pr pt v op n T) (by kernel_rfl) hSX (fun hHeld3 => ?_)
        clear hSX
        generalize wy.drew = wx at *
        refine wpAnyH_take (i := 0) (oi := _) (v := .pointer (some ⟨p, 0, none⟩)) rfl (by kernel_rfl) (by kernel_rfl) (by kernel_rfl) (fun _ _ _ h => h) (Or.inl ⟨by rfl, (by intro w hSw; go_simp)⟩) (by assumption) ?_
        refine wpAnyH_take (i := 1) (oi := _) (v := .agg (Ar .u8 T)) rfl (by kernel_rfl) (by kernel_rfl) (by kernel_rfl) (fun _ _ _ h => h) (yieldsIf_load_mid (by rfl) 162 _ rfl pt 0 rfl (T.map (Value.int .u8)) _ (fun w h => h.sg.1) Tryz.underlying162 rfl (by rw [List.length_map, unhide HT]; exact Tryz.info162)) (by assumption) ?_
        refine wpAnyH_take (i := 2) (oi := _) (v := .pointer (some ⟨p, 0, none⟩)) rfl (by kernel_rfl) (by kernel_rfl) (by kernel_rfl) (fun _ _ _ h => h) (Or.inl ⟨by rfl, (by intro w hSw; go_simp)⟩) (by assumption) ?_
        refine wpAnyH_take (i := 3) (oi := _) (v := .pointer (some ⟨p, 0, none⟩)) rfl (by kernel_rfl) (by kernel_rfl) (by kernel_rfl) (fun _ _ _ h => h) (Or.inl ⟨by rfl, (by intro w hSw; go_simp)⟩) (by assumption) ?_
        refine wpAnyH_take (i := 4) (oi := _) (v := .pointer (some ⟨p, 0, none⟩)) rfl (by kernel_rfl) (by kernel_rfl) (by kernel_rfl) (fun _ _ _ h => h) (Or.inl ⟨by rfl, (by intro w hSw; go_simp)⟩) (by assumption) ?_
        refine wpAnyH_take (i := 5) (oi := _) (v := .agg (Ar .u32 v)) rfl (by kernel_rfl) (by kernel_rfl) (by kernel_rfl) (fun _ _ _ h => h) (yieldsIf_load_mid (by rfl) 157 _ rfl p 0 rfl (v.map (Value.int .u32)) _ (fun w h => h.wds.1) Tryz.underlying157 rfl (by rw [List.length_map, unhide HLv]; exact Tryz.info157)) (by assumption) ?_
        refine wpAnyH_take (i := 6) (oi := _) (v := .agg (Ar .u8 T)) rfl (by kernel_rfl) (by kernel_rfl) (by kernel_rfl) (fun _ _ _ h => h) (yieldsIf_load_mid (by rfl) 162 _ rfl pt 0 rfl (T.map (Value.int .u8)) _ (fun w h => h.sg.1) Tryz.underlying162 rfl (by rw [List.length_map, unhide HT]; exact Tryz.info162)) (by assumption) ?_
        simp only [Act.put, List.setIfInBounds_toArray]
        refine wpAnyH_ready (rs := [7]) (by kernel_rfl) (by simp) ?_
        refine AllReadyH.cons (o := _) rfl (fun K hK => ?_) AllReadyH.nil
        go_simp
        refine (unhide hCE _ hHeld3.kt).mono ?_
        rintro e wE ⟨rfl, hbE⟩
        have hS4 := hHeld3.below hbE
        go_simp
        refine hK.out _ _ hS4 (fun hHeldx => ?_)
        clear hK K
        refine wpAnyH_ready (rs := [8]) (by kernel_rfl) (by simp) ?_
        refine AllReadyH.cons (o := _) rfl (fun K hK => ?_) AllReadyH.nil
        go_simp
        refine (unhide hCB _).mono ?_
        rintro e wF ⟨rfl, hbF⟩
        have hS5 := hS4.below hbF
        go_simp
        refine hK.out _ _ hS5 (fun hHeldx => ?_)
        clear hK K
        refine wpAnyH_take (i := 9) (oi := _) (v := .agg (Ar .u8 (T ++ DG))) rfl (by kernel_rfl) (by kernel_rfl) (by kernel_rfl) (fun _ _ _ h => h) (yieldsIf_build54 (by rfl) _ _ rfl T DG rfl rfl (unhide HT) (unhide HDL)) (by assumption) ?_
        refine wpAnyH_take (i := 10) (oi := _) (v := .pointer (some ⟨p, 0, none⟩)) rfl (by kernel_rfl) (by kernel_rfl) (by kernel_rfl) (fun _ _ _ h => h) (Or.inl ⟨by rfl, (by intro w hSw; go_simp)⟩) (by assumption) ?_
        refine wpAnyH_take (i := 11) (oi := _) (v := .pointer (some ⟨p, 73, none⟩)) rfl (by kernel_rfl) (by kernel_rfl) (by kernel_rfl) (fun _ _ _ h => h) (Or.inl ⟨by rfl, (by intro w hSw; go_simp)⟩) (by assumption) ?_
        refine wpAnyH_ready (rs := [12]) (by kernel_rfl) (by simp) ?_
        refine AllReadyH.cons (o := _) rfl (fun K hK => ?_) AllReadyH.nil
        refine step_store_ar rfl 164 _ _ rfl p 73 rfl .u8 (T ++ DG) 160 rfl (by rw [List.length_append, unhide HT, unhide HDL]) hS5.tt Tryz.info164 ?_
        obtain ⟨hS6, hH6⟩ := hS5.told (D := DG) (unhide Hp0) (unhide HT) (unhide HDL) (unhide HLv) (unhide HLo) (unhide HBo)
        refine hK.out _ _ hS6 (fun hHeldx => ?_)
        clear hK K
        refine wpAnyH_done (by kernel_rfl) ?_ _
        clear hS5 hS4 hHeld3 hbE hbF
        generalize wF.setCells p 73 ((T ++ DG).map (Value.int .u8)) = wG at *
        go_simp
        have HB := hide (And.intro hS6 hH6)
        clear hS6 hH6
        go_wp2_with (first | (refine wpList_load_ar rfl 30 _ rfl p 201 rfl .u8 DG _ 32 (unhide HB).2.dgs (unhide HDL) Tryz.underlying30 rfl Tryz.info30 ?_) | (refine wpList_store_ar rfl 30 _ _ rfl pr 0 rfl .u8 DG 32 rfl (unhide HDL) (unhide HB).1.th Tryz.info30 ?_))
        have hst := Seg.stored (k := .u8) DG (by rw [(unhide HDL)]; exact (unhide HB).1.th)
        refine bodyPost_ret (v := .agg (Ar .u8 DG)) ?_ rfl ?_
        · rw [results_cell_one rfl]
          have hld := run_loadVar_ar (P := Tryz.prog) _ pr 0 30 .u8 DG _ 32 hst (unhide HDL) Tryz.underlying30 rfl Tryz.info30
          exact hld
        · rw [unhide hSP]
          have hb := unhide HB
          have hq1 := hb.1.lt
          have hq2 := hb.1.lq
          have F := Fr.setCells (S := fun k => k = pr) (a := wG) pr (.inr rfl) (DG.map (Value.int .u8)) 0 (Fr.refl _ wG)
          refine ⟨rfl, Fr.setCells (S := fun k => k = p) (a := w) pr (.inl hq2) (DG.map (Value.int .u8)) 0 hb.1.fr, T, DG, hb.2.keepB (F.block p hb.2.lt' (by omega)), .inr ⟨rfl, rfl⟩⟩
  · refine AllReadyH.cons (o := _) rfl (fun K hK => ?_) AllReadyH.nil
    refine step_alloc_ar rfl 162 rfl (Ar .u8 z128) 128 (unhide hz52) ?_
    have hT2 := TB.fresh (w0 := w) (w := wb) (Nat.le_trans hHeld.lqq (Nat.le_of_lt hHeld.lr)) hHeld.lr
    have hS3 := hHeld.alloc (.cells (Ar .u8 z128) 162)
    refine hK.out _ _ hS3 (fun hHeldx => ?_)
    clear hK K
    refine wpAnyH_ready (rs := [5]) (by kernel_rfl) (by simp) ?_
    refine AllReadyH.cons (o := _) rfl (fun K hK => ?_) AllReadyH.nil
    go_simp
    refine (unhide hheld _ hS3).mono ?_
    rintro e w' ⟨rfl, hww⟩
    have hww := hww.symm
    subst hww
    go_simp
    refine hK.out _ _ hS3 (fun hHeldx => ?_)
    clear hK K
    refine wpAnyH_ready (rs := [10]) (by kernel_rfl) (by simp) ?_
    refine AllReadyH.cons (o := _) rfl (fun K hK => ?_) AllReadyH.nil
    go_simp
    refine (unhide hC1 _).mono ?_
    rintro e wp ⟨rfl, hbp⟩
    have hS2 := hS3.below hbp
    have hT3 := hT2.below hbp
    go_simp
    refine hK.out _ _ hS2 (fun hHeldx => ?_)
    clear hK K
    refine wpAnyH_ready (rs := [12]) (by kernel_rfl) (by simp) ?_
    refine AllReadyH.cons (o := _) rfl (fun K hK => ?_) AllReadyH.nil
    refine step_store_ar rfl 162 _ _ rfl wb.heap.size 0 rfl .u8 T 128 rfl (unhide HT) hT3.1 Tryz.info162 ?_
    have hSB := SB.made hS2 hT3 (unhide HT) (unhide Hp0)
    refine hK.out _ _ hSB.sk (fun hHeldx => ?_)
    clear hK K
    refine wpAnyH_done (by kernel_rfl) ?_ _
    clear hS2 hT2 hT3 hS3 hbp hHeld
    generalize hwz : wp.setCells wb.heap.size 0 (T.map (Value.int .u8)) = wz at *
    generalize wb.heap.size = pt at *
    clear hwz
    simp only [Act.put, List.setIfInBounds_toArray]
    go_wp2_with fail
    have hSBd : SB w p pr pt v op n tl dg T wz.drew := hSB.below ((Below.refl _ _).drew)
    refine wp_region_held_drew (S := SB w p pr pt v op n tl dg T) (by kernel_rfl) hSBd (fun hHeld2 => ?_)
    clear hSB hSBd
    generalize wz.drew = wy at *
    refine wpAnyH_take (i := 0) (oi := _) (v := .pointer (some ⟨p, 0, none⟩)) rfl (by kernel_rfl) (by kernel_rfl) (by kernel_rfl) (fun _ _ _ h => h) (Or.inl ⟨by rfl, (by intro w hSw; go_simp)⟩) (by assumption) ?_
    refine wpAnyH_take (i := 1) (oi := _) (v := .pointer (some ⟨p, 0, none⟩)) rfl (by kernel_rfl) (by kernel_rfl) (by kernel_rfl) (fun _ _ _ h => h) (Or.inl ⟨by rfl, (by intro w hSw; go_simp)⟩) (by assumption) ?_
    refine wpAnyH_take (i := 2) (oi := _) (v := .pointer (some ⟨p, 73, none⟩)) rfl (by kernel_rfl) (by kernel_rfl) (by kernel_rfl) (fun _ _ _ h => h) (Or.inl ⟨by rfl, (by intro w hSw; go_simp)⟩) (by assumption) ?_
    refine wpAnyH_take (i := 3) (oi := _) (v := .pointer (some ⟨p, 73, none⟩)) rfl (by kernel_rfl) (by kernel_rfl) (by kernel_rfl) (fun _ _ _ h => h) (Or.inl ⟨by rfl, (by intro w hSw; go_simp)⟩) (by assumption) ?_
    refine wpAnyH_take (i := 4) (oi := _) (v := .agg (Ar .u8 tl)) rfl (by kernel_rfl) (by kernel_rfl) (by kernel_rfl) (fun _ _ _ h => h) (yieldsIf_load_mid (by rfl) 162 _ rfl p 73 rfl (tl.map (Value.int .u8)) _ (fun w h => h.sk.hs.til.1) Tryz.underlying162 rfl (by rw [List.length_map, unhide HLt]; exact Tryz.info162)) (by assumption) ?_
    refine wpAnyH_take (i := 5) (oi := _) (v := .agg (Ar .u8 T)) rfl (by kernel_rfl) (by kernel_rfl) (by kernel_rfl) (fun _ _ _ h => h) (yieldsIf_load_mid (by rfl) 162 _ rfl pt 0 rfl (T.map (Value.int .u8)) _ (fun w h => h.sg.1) Tryz.underlying162 rfl (by rw [List.length_map, unhide HT]; exact Tryz.info162)) (by assumption) ?_
    by_cases hc : tl = T
    · have hq : (tl == T) = true := by rw [hc]; exact beq_self_eq_true _
      have HQ := hide hc
      refine wpAnyH_take (i := 6) (oi := _) (v := .bool (!true)) rfl (by kernel_rfl) (by kernel_rfl) (by kernel_rfl) (fun _ _ _ h => h) (yieldsIf_neq52 (by rfl) _ _ _ rfl tl T rfl rfl (unhide HLt) (unhide HT) true hq) (by assumption) ?_
      clear hc hq
      refine wpAnyH_done (by kernel_rfl) ?_ _
      go_simp
      have HB := hide hHeld2
      clear hHeld2
      go_wp2_with (first | (refine wpList_load_ar rfl 30 _ rfl p 201 rfl .u8 dg _ 32 (unhide HB).sk.hs.dgs (unhide HLd) Tryz.underlying30 rfl Tryz.info30 ?_) | (refine wpList_store_ar rfl 30 _ _ rfl pr 0 rfl .u8 dg 32 rfl (unhide HLd) (unhide HB).sk.th Tryz.info30 ?_))
      have hst := Seg.stored (k := .u8) dg (by rw [(unhide HLd)]; exact (unhide HB).sk.th)
      refine bodyPost_ret (v := .agg (Ar .u8 dg)) ?_ rfl ?_
      · rw [results_cell_one rfl]
        have hld := run_loadVar_ar (P := Tryz.prog) _ pr 0 30 .u8 dg _ 32 hst (unhide HLd) Tryz.underlying30 rfl Tryz.info30
        exact hld
      · rw [unhide hSP]
        have hb := unhide HB
        have hq1 := hb.sk.lt
        have hq2 := hb.sk.lq
        have F := Fr.setCells (S := fun k => k = pr) (a := wy) pr (.inr rfl) (dg.map (Value.int .u8)) 0 (Fr.refl _ wy)
        refine ⟨by rw [unhide HTold (unhide HQ)], Fr.setCells (S := fun k => k = p) (a := w) pr (.inl hq2) (dg.map (Value.int .u8)) 0 (hb.sk.fr.mono (fun _ _ h => h.elim)), tl, dg, hb.sk.hs.keepB (F.block p hb.sk.hs.lt' (by omega)), .inl ⟨rfl, rfl⟩⟩
    · have hq : (tl == T) = false := by rw [beq_eq_false_iff_ne]; exact hc
      refine wpAnyH_take (i := 6) (oi := _) (v := .bool (!false)) rfl (by kernel_rfl) (by kernel_rfl) (by kernel_rfl) (fun _ _ _ h => h) (yieldsIf_neq52 (by rfl) _ _ _ rfl tl T rfl rfl (unhide HLt) (unhide HT) false hq) (by assumption) ?_
      clear hc hq
      refine wpAnyH_done (by kernel_rfl) ?_ _
      go_simp
      have hSX : SX w p pr pt v op n T wy.drew := (SX.of hHeld2).below ((Below.refl _ _).drew)
      clear hHeld2
      go_wp2_with fail
      refine wp_region_held_drew (S := SX w p pr pt v op n T) (by kernel_rfl) hSX (fun hHeld3 => ?_)
      clear hSX
      generalize wy.drew = wx at *
      refine wpAnyH_take (i := 0) (oi := _) (v := .pointer (some ⟨p, 0, none⟩)) rfl (by kernel_rfl) (by kernel_rfl) (by kernel_rfl) (fun _ _ _ h => h) (Or.inl ⟨by rfl, (by intro w hSw; go_simp)⟩) (by assumption) ?_
      refine wpAnyH_take (i := 1) (oi := _) (v := .agg (Ar .u8 T)) rfl (by kernel_rfl) (by kernel_rfl) (by kernel_rfl) (fun _ _ _ h => h) (yieldsIf_load_mid (by rfl) 162 _ rfl pt 0 rfl (T.map (Value.int .u8)) _ (fun w h => h.sg.1) Tryz.underlying162 rfl (by rw [List.length_map, unhide HT]; exact Tryz.info162)) (by assumption) ?_
      refine wpAnyH_take (i := 2) (oi := _) (v := .pointer (some ⟨p, 0, none⟩)) rfl (by kernel_rfl) (by kernel_rfl) (by kernel_rfl) (fun _ _ _ h => h) (Or.inl ⟨by rfl, (by intro w hSw; go_simp)⟩) (by assumption) ?_
      refine wpAnyH_take (i := 3) (oi := _) (v := .pointer (some ⟨p, 0, none⟩)) rfl (by kernel_rfl) (by kernel_rfl) (by kernel_rfl) (fun _ _ _ h => h) (Or.inl ⟨by rfl, (by intro w hSw; go_simp)⟩) (by assumption) ?_
      refine wpAnyH_take (i := 4) (oi := _) (v := .pointer (some ⟨p, 0, none⟩)) rfl (by kernel_rfl) (by kernel_rfl) (by kernel_rfl) (fun _ _ _ h => h) (Or.inl ⟨by rfl, (by intro w hSw; go_simp)⟩) (by assumption) ?_
      refine wpAnyH_take (i := 5) (oi := _) (v := .agg (Ar .u32 v)) rfl (by kernel_rfl) (by kernel_rfl) (by kernel_rfl) (fun _ _ _ h => h) (yieldsIf_load_mid (by rfl) 157 _ rfl p 0 rfl (v.map (Value.int .u32)) _ (fun w h => h.wds.1) Tryz.underlying157 rfl (by rw [List.length_map, unhide HLv]; exact Tryz.info157)) (by assumption) ?_
      refine wpAnyH_take (i := 6) (oi := _) (v := .agg (Ar .u8 T)) rfl (by kernel_rfl) (by kernel_rfl) (by kernel_rfl) (fun _ _ _ h => h) (yieldsIf_load_mid (by rfl) 162 _ rfl pt 0 rfl (T.map (Value.int .u8)) _ (fun w h => h.sg.1) Tryz.underlying162 rfl (by rw [List.length_map, unhide HT]; exact Tryz.info162)) (by assumption) ?_
      simp only [Act.put, List.setIfInBounds_toArray]
      refine wpAnyH_ready (rs := [7]) (by kernel_rfl) (by simp) ?_
      refine AllReadyH.cons (o := _) rfl (fun K hK => ?_) AllReadyH.nil
      go_simp
      refine (unhide hCE _ hHeld3.kt).mono ?_
      rintro e wE ⟨rfl, hbE⟩
      have hS4 := hHeld3.below hbE
      go_simp
      refine hK.out _ _ hS4 (fun hHeldx => ?_)
      clear hK K
      refine wpAnyH_ready (rs := [8]) (by kernel_rfl) (by simp) ?_
      refine AllReadyH.cons (o := _) rfl (fun K hK => ?_) AllReadyH.nil
      go_simp
      refine (unhide hCB _).mono ?_
      rintro e wF ⟨rfl, hbF⟩
      have hS5 := hS4.below hbF
      go_simp
      refine hK.out _ _ hS5 (fun hHeldx => ?_)
      clear hK K
      refine wpAnyH_take (i := 9) (oi := _) (v := .agg (Ar .u8 (T ++ DG))) rfl (by kernel_rfl) (by kernel_rfl) (by kernel_rfl) (fun _ _ _ h => h) (yieldsIf_build54 (by rfl) _ _ rfl T DG rfl rfl (unhide HT) (unhide HDL)) (by assumption) ?_
      refine wpAnyH_take (i := 10) (oi := _) (v := .pointer (some ⟨p, 0, none⟩)) rfl (by kernel_rfl) (by kernel_rfl) (by kernel_rfl) (fun _ _ _ h => h) (Or.inl ⟨by rfl, (by intro w hSw; go_simp)⟩) (by assumption) ?_
      refine wpAnyH_take (i := 11) (oi := _) (v := .pointer (some ⟨p, 73, none⟩)) rfl (by kernel_rfl) (by kernel_rfl) (by kernel_rfl) (fun _ _ _ h => h) (Or.inl ⟨by rfl, (by intro w hSw; go_simp)⟩) (by assumption) ?_
      refine wpAnyH_ready (rs := [12]) (by kernel_rfl) (by simp) ?_
      refine AllReadyH.cons (o := _) rfl (fun K hK => ?_) AllReadyH.nil
      refine step_store_ar rfl 164 _ _ rfl p 73 rfl .u8 (T ++ DG) 160 rfl (by rw [List.length_append, unhide HT, unhide HDL]) hS5.tt Tryz.info164 ?_
      obtain ⟨hS6, hH6⟩ := hS5.told (D := DG) (unhide Hp0) (unhide HT) (unhide HDL) (unhide HLv) (unhide HLo) (unhide HBo)
      refine hK.out _ _ hS6 (fun hHeldx => ?_)
      clear hK K
      refine wpAnyH_done (by kernel_rfl) ?_ _
      clear hS5 hS4 hHeld3 hbE hbF
      generalize wF.setCells p 73 ((T ++ DG).map (Value.int .u8)) = wG at *
      go_simp
      have HB := hide (And.intro hS6 hH6)
      clear hS6 hH6
      go_wp2_with (first | (refine wpList_load_ar rfl 30 _ rfl p 201 rfl .u8 DG _ 32 (unhide HB).2.dgs (unhide HDL) Tryz.underlying30 rfl Tryz.info30 ?_) | (refine wpList_store_ar rfl 30 _ _ rfl pr 0 rfl .u8 DG 32 rfl (unhide HDL) (unhide HB).1.th Tryz.info30 ?_))
      have hst := Seg.stored (k := .u8) DG (by rw [(unhide HDL)]; exact (unhide HB).1.th)
      refine bodyPost_ret (v := .agg (Ar .u8 DG)) ?_ rfl ?_
      · rw [results_cell_one rfl]
        have hld := run_loadVar_ar (P := Tryz.prog) _ pr 0 30 .u8 DG _ 32 hst (unhide HDL) Tryz.underlying30 rfl Tryz.info30
        exact hld
      · rw [unhide hSP]
        have hb := unhide HB
        have hq1 := hb.1.lt
        have hq2 := hb.1.lq
        have F := Fr.setCells (S := fun k => k = pr) (a := wG) pr (.inr rfl) (DG.map (Value.int .u8)) 0 (Fr.refl _ wG)
        refine ⟨rfl, Fr.setCells (S := fun k => k = p) (a := w) pr (.inl hq2) (DG.map (Value.int .u8)) 0 hb.1.fr, T, DG, hb.2.keepB (F.block p hb.2.lt' (by omega)), .inr ⟨rfl, rfl⟩⟩
end Go.Proofs.YtlogmdldjmkkjaaGreatDoor.dg
