/-
  A block, by the document.
-/
import Derived.Test.YtlkcjimkgebeiaaDoorRSmall
namespace Go.Proofs.YtlkcjimkgebeiaaDoor
open Go.RowKit

/-- Eight words as a row. -/
def SL (s : W8) : List Int := [s.a, s.b, s.c, s.d, s.e, s.f, s.g, s.h]
theorem SL_len (s : W8) : (SL s).length = 8 := rfl
theorem SL_w8 (v : List Int) (h : v.length = 8) : SL (w8 v) = v := by
  match v, h with
  | [a, b, c, d, e, f, g, h], _ => rfl
/-- A box for an array of words that was answered. -/
theorem boxed32 (w : World) (ty : TypeId) (zz ys : List Int) (hy : ys.length = zz.length) (h0 : 0 < ys.length) : Seg ((w.alloc (.cells (Ar .u32 zz) ty)).setCells w.heap.size 0 (ys.map (Value.int .u32))) w.heap.size 0 .u32 ys ∧
    Below w.heap.size w ((w.alloc (.cells (Ar .u32 zz) ty)).setCells w.heap.size 0 (ys.map (Value.int .u32))) ∧ w.heap.size < ((w.alloc (.cells (Ar .u32 zz) ty)).setCells w.heap.size 0 (ys.map (Value.int .u32))).heap.size := by
  have hf := Seg.fresh w ty .u32 zz
  have hs := Seg.stored (k := .u32) (w := w.alloc (.cells (Ar .u32 zz) ty)) (b := w.heap.size) (o := 0) ys (by rw [hy]; exact hf.2)
  have F := Fr.setCells (S := fun _ => False) (a := w) w.heap.size (.inl (Nat.le_refl _)) (ys.map (Value.int .u32)) 0 ((Fr.refl _ w).alloc (.cells (Ar .u32 zz) ty))
  exact ⟨hs, F.below (Nat.le_refl _) (by simp), World.block_lt_of_cell? _ _ (hs.cell 0 h0)⟩
theorem build42 (y0 y1 y2 y3 y4 y5 y6 y7 : Int) (w : World) : (Instr.build 42 #[(0, .int .u32 y0), (1, .int .u32 y1), (2, .int .u32 y2), (3, .int .u32 y3), (4, .int .u32 y4), (5, .int .u32 y5), (6, .int .u32 y6), (7, .int .u32 y7)]).run Tryd.prog w = .ok (.agg (Ar .u32 [y0, y1, y2, y3, y4, y5, y6, y7])) w := by kernel_rfl
theorem build42m (a : Act) (x0 x1 x2 x3 x4 x5 x6 x7 : Operand) (y0 y1 y2 y3 y4 y5 y6 y7 : Int) (h0 : a.eval x0 = .int .u32 y0) (h1 : a.eval x1 = .int .u32 y1) (h2 : a.eval x2 = .int .u32 y2) (h3 : a.eval x3 = .int .u32 y3) (h4 : a.eval x4 = .int .u32 y4) (h5 : a.eval x5 = .int .u32 y5) (h6 : a.eval x6 = .int .u32 y6) (h7 : a.eval x7 = .int .u32 y7) (ys : List Int) (hy : [y0, y1, y2, y3, y4, y5, y6, y7] = ys) (w : World) : (Instr.build 42 ((#[(0, x0), (1, x1), (2, x2), (3, x3), (4, x4), (5, x5), (6, x6), (7, x7)] : Array (Nat × Operand)).map fun (i, x) => (i, a.eval x))).run Tryd.prog w = .ok (.agg (Ar .u32 ys)) w := by
  subst hy
  simp only [List.map_toArray, List.map_cons, List.map_nil, h0, h1, h2, h3, h4, h5, h6, h7]
  exact build42 y0 y1 y2 y3 y4 y5 y6 y7 w
theorem sumF_get (v : List Int) (s : W8) (i : Nat) (h : i < 8) : (sumF v s).getD i 0 = (v.getD i 0 + (SL s).getD i 0) % 4294967296 := by
  match i, h with
  | 0, _ => rfl
  | 1, _ => rfl
  | 2, _ => rfl
  | 3, _ => rfl
  | 4, _ => rfl
  | 5, _ => rfl
  | 6, _ => rfl
  | 7, _ => rfl
/-- What the document's rounds keep. -/
structure RB (w0 : World) (p7 p8 p9 : Nat) (v ws kt xs : List Int) (w : World) : Prop where
  s3 : Seg w w0.heap.size 0 .u32 v
  t6 : w.there (w0.heap.size + 1) 0 8
  s7 : Seg w p7 0 .u32 ws
  s8 : Seg w p8 0 .u32 kt
  s9 : Seg w p9 0 .u32 xs
  bl : Below w0.heap.size w0 w
theorem RB.drewN {w0 w : World} {p7 p8 p9 : Nat} {v ws kt xs : List Int} (h : RB w0 p7 p8 p9 v ws kt xs w) (n : Nat) : RB w0 p7 p8 p9 v ws kt xs (w.drewN n) :=
  ⟨h.s3.keepB (by rw [drewN_heap]), there_keep h.t6 (by rw [drewN_heap]), h.s7.keepB (by rw [drewN_heap]), h.s8.keepB (by rw [drewN_heap]), h.s9.keepB (by rw [drewN_heap]), below_drewN h.bl n⟩

set_option maxHeartbeats 6400000 in
set_option maxRecDepth 100000 in
theorem rblock_any (vb : Value) (v P b : List Int) (at0 : Nat) (hv : v.length = 8) (hb : b = (P.drop at0).take 64) (hat : at0 + 64 ≤ P.length) (hPl : P.length ≤ 140737488355400) (w : World) (hR : Rd w vb P) (hBP : BOk P) :
    Calls Tryd.prog 21 #[.agg (Ar .u32 v), vb, .int .i64 (at0 : Int)] w fun e w' => e = .returned (.agg (Ar .u32 (behF v b))) ∧ Below w.heap.size w w' := by
  have hz42 := hide Tryd.zero42
  have hz63 := hide Tryd.zero63
  have HV := hide hv
  have hb0 : Below w.heap.size w ((w.alloc (.cells (Ar .u32 v) 42)).alloc (.cells (Ar .u32 z8) 42)) := ((Below.refl _ _).alloc (Nat.le_refl _) _).alloc (by simp) _
  have hC := hide (rwords_any vb P b at0 hb hat hPl _ (hR.below hb0) hBP)
  have H3 : Hid (Seg ((w.alloc (.cells (Ar .u32 v) 42)).alloc (.cells (Ar .u32 z8) 42)) w.heap.size 0 .u32 v) := (Seg.fresh w 42 .u32 v).alloc _
  have H6 : Hid (((w.alloc (.cells (Ar .u32 v) 42)).alloc (.cells (Ar .u32 z8) 42)).there (w.heap.size + 1) 0 8) := by
    have := (Seg.fresh (w.alloc (.cells (Ar .u32 v) 42)) 42 .u32 z8).2
    rw [z8_len] at this
    simpa [Hid] using this
  have HB0 := hide hb0
  clear hb0 hR hBP hb hat hPl hv
  go_enter Tryd.func21, Tryd.ntmps21
  go_wp2_with (first | (refine wpList_alloc_ar rfl 42 rfl (Ar .u32 z8) 8 (unhide hz42) ?_))
  refine (unhide hC).mono ?_
  rintro e w1 ⟨rfl, hb1⟩
  obtain ⟨ws, hws⟩ : ∃ ws, Hid (sp b 64 = ws) := ⟨_, rfl⟩
  have HWL : Hid (ws.length = 64) := by rw [Hid, ← unhide hws]; exact sp_len b 64
  have hbf : Hid (behF v b = sumF v (st ws (w8 v) 64)) := by rw [Hid, ← unhide hws]; rfl
  rw [unhide hws]
  have hsz1 := hb1.size
  simp at hsz1
  obtain ⟨q1, q2, q3⟩ := boxed32 w1 63 z64 ws (by rw [unhide HWL]; rfl) (by rw [unhide HWL]; omega)
  have HT1 : Hid ((w1.alloc (.cells (Ar .u32 z64) 63)).there w1.heap.size 0 64) := (Seg.fresh w1 63 .u32 z64).2
  have hb1' := (unhide HB0).trans (hb1.mono (by simp; omega))
  have HA : Hid (Seg w1 w.heap.size 0 .u32 v ∧ w1.there (w.heap.size + 1) 0 8 ∧ Below w.heap.size w w1 ∧ w.heap.size + 1 < w1.heap.size) := ⟨(unhide H3).keepB (hb1.block _ (by simp; omega)), there_keep (unhide H6) (hb1.block _ (by simp)), hb1', by omega⟩
  clear hb1 hC H3 H6 hsz1 hb1' HB0
  go_wp2_with (first | (refine wpList_alloc_ar rfl 63 rfl (Ar .u32 z64) 64 (unhide hz63) ?_) | (refine wpList_store_ar rfl 63 _ _ rfl w1.heap.size 0 rfl .u32 ws 64 rfl (unhide HWL) (unhide HT1) Tryd.info63 ?_; generalize (w1.alloc (.cells (Ar .u32 z64) 63)).setCells w1.heap.size 0 (ws.map (Value.int .u32)) = w2 at *))
  have hA := unhide HA
  have HA2 : Hid (Seg w2 w.heap.size 0 .u32 v ∧ w2.there (w.heap.size + 1) 0 8 ∧ Below w.heap.size w w2 ∧ Seg w2 w1.heap.size 0 .u32 ws ∧ w.heap.size + 1 < w1.heap.size ∧ w1.heap.size < w2.heap.size) := ⟨hA.1.keepB (q2.block _ (by omega)), there_keep hA.2.1 (q2.block _ (by omega)), hA.2.2.1.trans (q2.mono (by omega)), q1, hA.2.2.2, q3⟩
  clear hA HA q1 q2 q3 HT1
  refine (table_any _).mono ?_
  rintro e w3 ⟨rfl, hb3⟩
  obtain ⟨kt, hkt⟩ : ∃ kt, Hid (ktab = kt) := ⟨_, rfl⟩
  have HKL : Hid (kt.length = 64) := by rw [Hid, ← unhide hkt]; exact ktab_len
  rw [unhide hkt]
  obtain ⟨q1, q2, q3⟩ := boxed32 w3 63 z64 kt (by rw [unhide HKL]; rfl) (by rw [unhide HKL]; omega)
  have HT3 : Hid ((w3.alloc (.cells (Ar .u32 z64) 63)).there w3.heap.size 0 64) := (Seg.fresh w3 63 .u32 z64).2
  have hA := unhide HA2
  have hz3 := hb3.size
  have b23 := hb3.trans (q2.mono hb3.size)
  generalize hw1s : w1.heap.size = p7 at *
  go_wp2_with (first | (refine wpList_alloc_ar rfl 63 rfl (Ar .u32 z64) 64 (unhide hz63) ?_) | (refine wpList_store_ar rfl 63 _ _ rfl w3.heap.size 0 rfl .u32 kt 64 rfl (unhide HKL) (unhide HT3) Tryd.info63 ?_; generalize (w3.alloc (.cells (Ar .u32 z64) 63)).setCells w3.heap.size 0 (kt.map (Value.int .u32)) = w4 at *; generalize hw3s : w3.heap.size = p8 at *) | (refine wpList_load_ar rfl 42 _ rfl w.heap.size 0 rfl .u32 v _ 8 (hA.1.keepB (b23.block _ (by omega))) (unhide HV) Tryd.underlying42 rfl Tryd.info42 ?_) | (refine wpList_alloc_ar rfl 42 rfl (Ar .u32 z8) 8 (unhide hz42) ?_) | (refine wpList_store_ar rfl 42 _ _ rfl w4.heap.size 0 rfl .u32 v 8 rfl (unhide HV) (Seg.fresh w4 42 .u32 z8).2 Tryd.info42 ?_))
  obtain ⟨r1, r2, r3⟩ := boxed32 w4 42 z8 v (by rw [unhide HV]; rfl) (by rw [unhide HV]; omega)
  have hz4 := b23.size
  have HR0 : Hid (RB w p7 p8 w4.heap.size v ws kt v ((w4.alloc (.cells (Ar .u32 z8) 42)).setCells w4.heap.size 0 (v.map (Value.int .u32)))) := by
    have b24 := b23.trans (r2.mono b23.size)
    exact ⟨hA.1.keepB (b24.block _ (by omega)), there_keep hA.2.1 (b24.block _ (by omega)), hA.2.2.2.1.keepB (b24.block _ (by omega)), q1.keepB (r2.block _ (by omega)), r1, hA.2.2.1.trans (b24.mono (by omega))⟩
  have HNE : Hid (w.heap.size + 1 < w4.heap.size ∧ p7 < w4.heap.size ∧ p8 < w4.heap.size) := by rw [Hid]; omega
  clear r1 r2 r3 hz4 q1 q2 q3 hA hz3 b23 hb3 HT3 HA2
  generalize (w4.alloc (.cells (Ar .u32 z8) 42)).setCells w4.heap.size 0 (v.map (Value.int .u32)) = w5 at *
  generalize w4.heap.size = p9 at *
  obtain ⟨V, hV⟩ : ∃ V, Hid (w8 v = V) := ⟨_, rfl⟩
  have hSLV : Hid (SL V = v) := by rw [Hid, ← unhide hV]; exact SL_w8 v (unhide HV)
  rw [unhide hV] at hbf
  have hst : Hid (∀ n, st ws V (n + 1) = roundF (st ws V n) (kt.getD n 0) (ws.getD n 0)) := by rw [Hid, ← unhide hkt]; exact fun n => rfl
  go_loopg [10] 64 (fun k s wr => ∃ (j : Nat), Hid (j + k = 64) ∧ j ≤ 64 ∧ s = .int .i64 (j : Int) ∧ Hid (RB w p7 p8 p9 v ws kt (SL (st ws V j)) wr))
  case atStart => exact ⟨0, by unfold Hid; omega, by omega, rfl, by show Hid (RB w p7 p8 p9 v ws kt (SL V) _); rw [unhide hSLV]; exact HR0⟩
  case round =>
    obtain ⟨j, hj, hj64, rfl, hG⟩ := hrel
    by_cases hlt : j < 64
    · have hck := (unhide hG).s8.cell j (by rw [unhide HKL]; exact hlt)
      have hcw := (unhide hG).s7.cell j (by rw [unhide HWL]; exact hlt)
      have hnext := hide (unhide hst j)
      generalize hS : st ws V j = S at *
      obtain ⟨a, b2, c, d, e, f, g, h⟩ := S
      have hc0 := (unhide hG).s9.cell 0 (by simp [SL])
      have hc1 := (unhide hG).s9.cell 1 (by simp [SL])
      have hc2 := (unhide hG).s9.cell 2 (by simp [SL])
      have hc3 := (unhide hG).s9.cell 3 (by simp [SL])
      have hc4 := (unhide hG).s9.cell 4 (by simp [SL])
      have hc5 := (unhide hG).s9.cell 5 (by simp [SL])
      have hc6 := (unhide hG).s9.cell 6 (by simp [SL])
      have hc7 := (unhide hG).s9.cell 7 (by simp [SL])
      simp only [Nat.zero_add, SL, List.getD_cons_zero, List.getD_cons_succ] at hck hcw hc0 hc1 hc2 hc3 hc4 hc5 hc6 hc7
      generalize kt.getD j 0 = kj at *
      generalize ws.getD j 0 = wj at *
      have i1 : (0 : Int) ≤ (j : Int) := by omega
      have i2 : (j : Int) < 64 := by omega
      clear hS
      obtain ⟨X, hX⟩ : ∃ X : Int → Int → Int, Hid (X = fun a b => bits .xor .u32 a b) := ⟨_, rfl⟩
      obtain ⟨Y, hY⟩ : ∃ Y : Int → Int → Int, Hid (Y = fun a b => bits .and .u32 a b) := ⟨_, rfl⟩
      obtain ⟨R, hR⟩ : ∃ R : Int → Int → Int, Hid (R = fun a b => rot a b) := ⟨_, rfl⟩
      obtain ⟨NM, hNM⟩ : ∃ NM : Int, Hid (NM = if IntKind.u32.signed = true then -1 else IntKind.u32.max) := ⟨_, rfl⟩
      have rx : ∀ a b, bits .xor .u32 a b = X a b := fun a b => by rw [unhide hX]
      have ry : ∀ a b, bits .and .u32 a b = Y a b := fun a b => by rw [unhide hY]
      have rr : ∀ a b, rot a b = R a b := fun a b => by rw [unhide hR]
      have rn : (if IntKind.u32.signed = true then (-1 : Int) else IntKind.u32.max) = NM := (unhide hNM).symm
      have ht1 : Hid (t1F ⟨a, b2, c, d, e, f, g, h⟩ kj wj = ((h + X (X (R e 6) (R e 11)) (R e 25) + X (Y e f) (Y (X NM e) g) + kj) % 4294967296 + wj) % 4294967296) := by
        rw [Hid, Int.emod_add_emod, ← rn, ← rx, ← rx, ← rx, ← rx, ← ry, ← ry, ← rr, ← rr, ← rr]
        rfl
      have ht2 : Hid (t2F ⟨a, b2, c, d, e, f, g, h⟩ = (X (X (R a 2) (R a 13)) (R a 22) + X (X (Y a b2) (Y a c)) (Y b2 c)) % 4294967296) := by
        rw [Hid, ← rx, ← rx, ← rx, ← rx, ← ry, ← ry, ← ry, ← rr, ← rr, ← rr]
        rfl
      go_wp2
      go_quiet (first | (go_at_call 31; exact Calls.quiet_of_same (rotr_any _ _ (by simp [Turns]) _)))
      generalize ((h + X (X (R e 6) (R e 11)) (R e 25) + X (Y e f) (Y (X NM e) g) + kj) % 4294967296 + wj) % 4294967296 = T1 at *
      have hd0 : (wr.drewN nq).cell? ⟨p9, 0, none⟩ = some (.int .u32 a) := by simpa using hc0
      have hd1 : (wr.drewN nq).cell? ⟨p9, 1, none⟩ = some (.int .u32 b2) := by simpa using hc1
      have hd2 : (wr.drewN nq).cell? ⟨p9, 2, none⟩ = some (.int .u32 c) := by simpa using hc2
      have hd3 : (wr.drewN nq).cell? ⟨p9, 3, none⟩ = some (.int .u32 d) := by simpa using hc3
      have hd4 : (wr.drewN nq).cell? ⟨p9, 4, none⟩ = some (.int .u32 e) := by simpa using hc4
      have hd5 : (wr.drewN nq).cell? ⟨p9, 5, none⟩ = some (.int .u32 f) := by simpa using hc5
      have hd6 : (wr.drewN nq).cell? ⟨p9, 6, none⟩ = some (.int .u32 g) := by simpa using hc6
      have hd7 : (wr.drewN nq).cell? ⟨p9, 7, none⟩ = some (.int .u32 h) := by simpa using hc7
      have HB2 := hide ((unhide hG).drewN nq)
      clear hck hcw hc0 hc1 hc2 hc3 hc4 hc5 hc6 hc7 hG
      generalize wr.drewN nq = wq at *
      go_wp2
      go_quiet (first | (go_at_call 31; exact Calls.quiet_of_same (rotr_any _ _ (by simp [Turns]) _)))
      generalize (X (X (R a 2) (R a 13)) (R a 22) + X (X (Y a b2) (Y a c)) (Y b2 c)) % 4294967296 = T2 at *
      have he0 : (wq.drewN nq).cell? ⟨p9, 0, none⟩ = some (.int .u32 a) := by simpa using hd0
      have he1 : (wq.drewN nq).cell? ⟨p9, 1, none⟩ = some (.int .u32 b2) := by simpa using hd1
      have he2 : (wq.drewN nq).cell? ⟨p9, 2, none⟩ = some (.int .u32 c) := by simpa using hd2
      have he3 : (wq.drewN nq).cell? ⟨p9, 3, none⟩ = some (.int .u32 d) := by simpa using hd3
      have he4 : (wq.drewN nq).cell? ⟨p9, 4, none⟩ = some (.int .u32 e) := by simpa using hd4
      have he5 : (wq.drewN nq).cell? ⟨p9, 5, none⟩ = some (.int .u32 f) := by simpa using hd5
      have he6 : (wq.drewN nq).cell? ⟨p9, 6, none⟩ = some (.int .u32 g) := by simpa using hd6
      have he7 : (wq.drewN nq).cell? ⟨p9, 7, none⟩ = some (.int .u32 h) := by simpa using hd7
      have HB3 := hide ((unhide HB2).drewN nq)
      clear hd0 hd1 hd2 hd3 hd4 hd5 hd6 hd7 HB2
      generalize wq.drewN nq = wz at *
      clear rx ry rr rn hX hY hR hNM
      have HT9 : Hid (wz.there p9 0 8) := (unhide HB3).s9.2
      obtain ⟨ys, hys⟩ : ∃ ys : List Int, [(T1 + T2) % 4294967296, a, b2, c, (d + T1) % 4294967296, e, f, g] = ys := ⟨_, rfl⟩
      have hyl : ys.length = 8 := by rw [← hys]; rfl
      have hbl := hide (fun w => build42 ((T1 + T2) % 4294967296) a b2 c ((d + T1) % 4294967296) e f g w)
      rw [hys] at hbl
      have Hys := hide hys
      clear hys
      go_wp2_with (first | (refine wpList_build rfl 42 _ rfl (.agg (Ar .u32 ys)) (build42m _ _ _ _ _ _ _ _ _ ((T1 + T2) % 4294967296) a b2 c ((d + T1) % 4294967296) e f g rfl rfl rfl rfl rfl rfl rfl rfl ys (unhide Hys) _) ?_) | (refine wpList_store_ar rfl 42 _ _ rfl p9 0 rfl .u32 ys 8 rfl hyl (unhide HT9) Tryd.info42 ?_))
      have hF := Fr.setCells (S := fun k => k = p9) (a := wz) p9 (.inr rfl) (ys.map (Value.int .u32)) 0 (Fr.refl _ wz)
      have HRN : Hid (RB w p7 p8 p9 v ws kt ys (wz.setCells p9 0 (ys.map (Value.int .u32)))) := by
        have hb := unhide HB3
        have hne := unhide HNE
        have hbs := hb.bl.size
        exact ⟨hb.s3.apart _ _ _ (.inl (by omega)), World.there_setCells hb.t6 _ _ _, hb.s7.apart _ _ _ (.inl (by omega)), hb.s8.apart _ _ _ (.inl (by omega)), Seg.stored ys (by rw [hyl]; exact unhide HT9), hb.bl.trans (hF.below hbs (fun k hk e => by omega))⟩
      go_wp2
      go_roundg (gk - 1)
      case measure => have := unhide hj; omega
      case rel =>
        refine ⟨j + 1, by have := unhide hj; unfold Hid; omega, by omega, by go_num, ?_⟩
        rw [unhide hnext]
        have e1 : SL (roundF ⟨a, b2, c, d, e, f, g, h⟩ kj wj) = [(T1 + T2) % 4294967296, a, b2, c, (d + T1) % 4294967296, e, f, g] := by
          show [(t1F ⟨a, b2, c, d, e, f, g, h⟩ kj wj + t2F ⟨a, b2, c, d, e, f, g, h⟩) % 4294967296, a, b2, c, (d + t1F ⟨a, b2, c, d, e, f, g, h⟩ kj wj) % 4294967296, e, f, g] = _
          rw [unhide ht1, unhide ht2]
        rw [e1, unhide Hys]
        exact HRN
    · obtain rfl : j = 64 := by omega
      obtain ⟨S, hS⟩ : ∃ S, Hid (st ws V 64 = S) := ⟨_, rfl⟩
      rw [unhide hS] at hG hbf
      have hget := hide (sumF_get v S)
      have hsl : Hid ((sumF v S).length = 8) := rfl
      have hSl : Hid ((SL S).length = 8) := rfl
      rw [← unhide hbf] at hget hsl
      obtain ⟨F, hF⟩ : ∃ F, Hid (behF v b = F) := ⟨_, rfl⟩
      rw [unhide hF] at hget hsl
      generalize SL S = XS at *
      have HG0 := hG
      clear hG
      go_wp2
      go_loopg [15] 8 (fun k s wr => ∃ (i : Nat) (xs : List Int), Hid (i + k = 8) ∧ i ≤ 8 ∧ s = .int .i64 (i : Int) ∧ Hid (xs.length = 8 ∧ xs.take i = F.take i ∧ xs.drop i = v.drop i) ∧ Hid (Seg wr w.heap.size 0 .u32 xs ∧ wr.there (w.heap.size + 1) 0 8 ∧ Seg wr p9 0 .u32 XS ∧ Below w.heap.size w wr))
      case atStart => exact ⟨0, v, by unfold Hid; omega, by omega, rfl, ⟨unhide HV, rfl, rfl⟩, (unhide HG0).s3, (unhide HG0).t6, (unhide HG0).s9, (unhide HG0).bl⟩
      case round =>
        obtain ⟨i, xs, hi, hi8, rfl, hxs, hG⟩ := hrel
        by_cases hlt : i < 8
        · have hxl := (unhide hxs).1
          have hxv : xs.getD i 0 = v.getD i 0 := by
            have h1 := congrArg (fun l => l[0]?) (unhide hxs).2.2
            simp only [List.getElem?_drop, Nat.add_zero] at h1
            rw [List.getD, List.getD, h1]
          have hc0 := (unhide hG).1.cell i (by rw [hxl]; exact hlt)
          have hf0 := (unhide hG).1.frz i (by rw [hxl]; exact hlt)
          have hc1 := (unhide hG).2.2.1.cell i (by rw [unhide hSl]; exact hlt)
          have hgi := hide (unhide hget i hlt)
          rw [Nat.zero_add] at hc0 hf0 hc1
          rw [hxv] at hc0
          have hne := (unhide HNE).1
          have hne2 : w.heap.size ≠ p9 := by omega
          have hne3 : p9 ≠ w.heap.size := by omega
          generalize v.getD i 0 = y0 at *
          generalize XS.getD i 0 = y1 at *
          have i1 : (0 : Int) ≤ (i : Int) := by omega
          have i2 : (i : Int) < 8 := by omega
          clear hxv hxl
          go_wp2
          go_region
          all_goals go_wp2
          all_goals
            go_roundg (gk - 1)
            case measure => have := unhide hi; omega
            case rel =>
              have hxl := (unhide hxs).1
              rw [← unhide hgi]
              have h1 := (unhide hG).1.set i (by rw [hxl]; exact hlt) (F.getD i 0)
              rw [Nat.zero_add] at h1
              refine ⟨i + 1, xs.set i (F.getD i 0), by have := unhide hi; unfold Hid; omega, by omega, by go_num, ⟨by rw [List.length_set]; exact hxl, ?_, ?_⟩, h1.drew, there_keep (World.there_setCells (unhide hG).2.1 w.heap.size i [.int .u32 (F.getD i 0)]) rfl, ((unhide hG).2.2.1.other _ _ (.inl (by simp; omega))).drew, ((unhide hG).2.2.2.setCell (p := ⟨w.heap.size, i, none⟩) (by simp) _).drew⟩
              · rw [take_getD0 F i (by rw [unhide hsl]; exact hlt), ← (unhide hxs).2.1]
                exact take_set2 xs i (by rw [hxl]; exact hlt) _ _ rfl
              · have h2 := congrArg (List.drop 1) (unhide hxs).2.2
                rw [List.drop_drop, List.drop_drop] at h2
                rw [List.drop_set_of_lt (by omega)]
                exact h2
        · obtain rfl : i = 8 := by omega
          have e : xs = F := by
            have := (unhide hxs).2.1
            rwa [List.take_of_length_le (by rw [(unhide hxs).1]; omega), List.take_of_length_le (by rw [unhide hsl]; omega)] at this
          have HE := hide e
          have HL8 := hide (unhide hxs).1
          clear e hxs
          go_wp2_with (first | (refine wpList_load_ar rfl 42 _ rfl w.heap.size 0 rfl .u32 xs _ 8 (unhide hG).1 (unhide HL8) Tryd.underlying42 rfl Tryd.info42 ?_) | (refine wpList_store_ar rfl 42 _ _ rfl (w.heap.size + 1) 0 rfl .u32 xs 8 rfl (unhide HL8) (unhide hG).2.1 Tryd.info42 ?_))
          have hs := Seg.stored (k := .u32) xs (by rw [unhide HL8]; exact (unhide hG).2.1)
          refine bodyPost_ret (v := .agg (Ar .u32 xs)) ?_ rfl ⟨by rw [unhide hF, unhide HE], ?_⟩
          · rw [results_cell_one rfl]
            have hld := run_loadVar_ar (P := Tryd.prog) _ (w.heap.size + 1) 0 42 .u32 xs _ 8 hs (unhide HL8) Tryd.underlying42 rfl Tryd.info42
            exact hld
          · have F2 := Fr.setCells (S := fun _ => False) (a := w) (w.heap.size + 1) (.inl (by omega)) (xs.map (Value.int .u32)) 0 (Fr.of_below (unhide hG).2.2.2)
            exact F2.below (Nat.le_refl _) (by simp)
end Go.Proofs.YtlkcjimkgebeiaaDoor
