/-
  The words behind a block.
-/
import Derived.Test.YtlkcjimkgebeiaaDoorSpread
namespace Go.Proofs.YtlkcjimkgebeiaaDoor
open Go.RowKit

def ktab : List Int := [1116352408, 1899447441, 3049323471, 3921009573, 961987163, 1508970993, 2453635748, 2870763221, 3624381080, 310598401, 607225278, 1426881987, 1925078388, 2162078206, 2614888103, 3248222580, 3835390401, 4022224774, 264347078, 604807628, 770255983, 1249150122, 1555081692, 1996064986, 2554220882, 2821834349, 2952996808, 3210313671, 3336571891, 3584528711, 113926993, 338241895, 666307205, 773529912, 1294757372, 1396182291, 1695183700, 1986661051, 2177026350, 2456956037, 2730485921, 2820302411, 3259730800, 3345764771, 3516065817, 3600352804, 4094571909, 275423344, 430227734, 506948616, 659060556, 883997877, 958139571, 1322822218, 1537002063, 1747873779, 1955562222, 2024104815, 2227730452, 2361852424, 2428436474, 2756734187, 3204031479, 3329325298]
theorem ktab_len : ktab.length = 64 := rfl
/-- The table lies where the package lays it. -/
def KT (w : World) : Prop := w.rangeAt 0 0 (ktab.map (Value.int .u32)) ∧ 0 < w.heap.size
theorem KT.below {w w' : World} (h : KT w) {B : Nat} (hB : 0 < B) (f : Below B w w') : KT w' :=
  ⟨fun j v hv => (World.cell?_of_block (w := w) (f.block 0 hB)).trans (h.1 j v hv), Nat.lt_of_lt_of_le h.2 f.size⟩
theorem KT.alloc {w : World} (h : KT w) (ob : Obj) : KT (w.alloc ob) := ⟨World.rangeAt_alloc h.1 ob, by simp⟩

/-- Eight words. -/
structure W8 where
  a : Int
  b : Int
  c : Int
  d : Int
  e : Int
  f : Int
  g : Int
  h : Int
def t1F (s : W8) (k w : Int) : Int := (s.h + bits .xor .u32 (bits .xor .u32 (rot s.e 6) (rot s.e 11)) (rot s.e 25) + bits .xor .u32 (bits .and .u32 s.e s.f) (bits .and .u32 (bits .xor .u32 (if IntKind.u32.signed = true then -1 else IntKind.u32.max) s.e) s.g) + k + w) % 4294967296
def t2F (s : W8) : Int := (bits .xor .u32 (bits .xor .u32 (rot s.a 2) (rot s.a 13)) (rot s.a 22) + bits .xor .u32 (bits .xor .u32 (bits .and .u32 s.a s.b) (bits .and .u32 s.a s.c)) (bits .and .u32 s.b s.c)) % 4294967296
/-- One round. -/
def roundF (s : W8) (k w : Int) : W8 := ⟨(t1F s k w + t2F s) % 4294967296, s.a, s.b, s.c, (s.d + t1F s k w) % 4294967296, s.e, s.f, s.g⟩
def st (ws : List Int) (s : W8) : Nat → W8
  | 0 => s
  | n + 1 => roundF (st ws s n) (ktab.getD n 0) (ws.getD n 0)
def w8 (v : List Int) : W8 := ⟨v.getD 0 0, v.getD 1 0, v.getD 2 0, v.getD 3 0, v.getD 4 0, v.getD 5 0, v.getD 6 0, v.getD 7 0⟩
def sumF (v : List Int) (s : W8) : List Int := [(v.getD 0 0 + s.a) % 4294967296, (v.getD 1 0 + s.b) % 4294967296, (v.getD 2 0 + s.c) % 4294967296, (v.getD 3 0 + s.d) % 4294967296, (v.getD 4 0 + s.e) % 4294967296, (v.getD 5 0 + s.f) % 4294967296, (v.getD 6 0 + s.g) % 4294967296, (v.getD 7 0 + s.h) % 4294967296]
/-- The words behind one more block. -/
def behF (v blk : List Int) : List Int := sumF v (st (sp blk 64) (w8 v) 64)

theorem Tryd.info46 : (Tryd.prog.info? 46).map (·.size) = some 8 := by kernel_rfl
def z8 : List Int := List.replicate 8 0
theorem z8_len : z8.length = 8 := rfl
theorem Tryd.zero46 : (Tryd.prog.info? 46).map (fun i => (i.zero, i.size)) = some (some (.agg (Ar .u32 z8)), 8) := by kernel_rfl

/-- What the rounds keep. -/
def BW (w0 : World) (p0 p4 p5 : Nat) (v ws : List Int) (w : World) : Prop := Seg w p0 0 .u32 v ∧ w.there p4 0 8 ∧ Seg w p5 0 .u32 ws ∧ Below w0.heap.size w0 w
theorem BW.drewN {w0 w : World} {p0 p4 p5 : Nat} {v ws : List Int} (h : BW w0 p0 p4 p5 v ws w) (n : Nat) : BW w0 p0 p4 p5 v ws (w.drewN n) :=
  ⟨h.1.keepB (by rw [drewN_heap]), fun j hj => ⟨by rw [World.cell?_of_block (w := w) (by rw [drewN_heap])]; exact (h.2.1 j hj).1, (World.frozen?_of_block (w := w) (by rw [drewN_heap])).trans (h.2.1 j hj).2⟩, h.2.2.1.keepB (by rw [drewN_heap]), below_drewN h.2.2.2 n⟩

set_option maxHeartbeats 3200000 in
set_option maxRecDepth 100000 in
theorem behind_any (v blk : List Int) (hv : v.length = 8) (hb : blk.length = 64) (hB : BOk blk) (w : World) (hK : KT w) :
    Calls Tryd.prog 27 #[.agg (Ar .u32 v), .agg (Ar .u8 blk)] w fun e w' => e = .returned (.agg (Ar .u32 (behF v blk))) ∧ Below w.heap.size w w' := by
  have hz46 := hide Tryd.zero46
  have hz63 := hide Tryd.zero63
  have HV := hide hv
  have HL := hide hb
  have hC := hide (spread_any blk hb hB)
  have HK := hide hK
  have H0 : Hid (Seg (((w.alloc (.cells (Ar .u32 v) 46)).alloc (.cells (Ar .u8 blk) 49)).alloc (.cells (Ar .u32 z8) 46)) w.heap.size 0 .u32 v) := ((Seg.fresh w 46 .u32 v).alloc _).alloc _
  have H1 : Hid (Seg (((w.alloc (.cells (Ar .u32 v) 46)).alloc (.cells (Ar .u8 blk) 49)).alloc (.cells (Ar .u32 z8) 46)) (w.heap.size + 1) 0 .u8 blk) := by
    have := (Seg.fresh (w.alloc (.cells (Ar .u32 v) 46)) 49 .u8 blk).alloc (.cells (Ar .u32 z8) 46)
    simpa [Hid] using this
  have H2 : Hid (Seg (((w.alloc (.cells (Ar .u32 v) 46)).alloc (.cells (Ar .u8 blk) 49)).alloc (.cells (Ar .u32 z8) 46)) (w.heap.size + 1 + 1) 0 .u32 z8) := by
    have := Seg.fresh ((w.alloc (.cells (Ar .u32 v) 46)).alloc (.cells (Ar .u8 blk) 49)) 46 .u32 z8
    simpa [Hid] using this
  have HW : Hid (Below w.heap.size w (((w.alloc (.cells (Ar .u32 v) 46)).alloc (.cells (Ar .u8 blk) 49)).alloc (.cells (Ar .u32 z8) 46))) := (((Below.refl _ _).alloc (Nat.le_refl _) _).alloc (by simp) _).alloc (by simp; omega) _
  clear hv hb hB hK
  go_enter Tryd.func27, Tryd.ntmps27
  go_wp2_with (first | (refine wpList_alloc_ar rfl 46 rfl (Ar .u32 z8) 8 (unhide hz46) ?_) | (refine wpList_load_ar rfl 49 _ rfl (w.heap.size + 1) 0 rfl .u8 blk _ 64 (unhide H1) (unhide HL) Tryd.underlying49 rfl Tryd.info49 ?_))
  refine (unhide hC _).mono ?_
  rintro e w1 ⟨rfl, hb1⟩
  obtain ⟨ws, hws⟩ : ∃ ws, Hid (sp blk 64 = ws) := ⟨_, rfl⟩
  have HWL : Hid (ws.length = 64) := by rw [Hid, ← unhide hws]; exact sp_len blk 64
  have hbf : Hid (behF v blk = sumF v (st ws (w8 v) 64)) := by rw [Hid, ← unhide hws]; rfl
  rw [unhide hws]
  have hk1 : KT w1 := ((((unhide HK).alloc _).alloc _).alloc _).below (by simp) hb1
  have hp : w.heap.size + 1 + 1 < w1.heap.size := by have := hb1.size; simp at this; omega
  have HG1 : Hid (Seg w1 w.heap.size 0 .u32 v ∧ Seg w1 (w.heap.size + 1 + 1) 0 .u32 z8 ∧ KT w1 ∧ Below w.heap.size w w1 ∧ w.heap.size + 1 + 1 < w1.heap.size) :=
    ⟨(unhide H0).keepB (hb1.block _ (by simp; omega)), (unhide H2).keepB (hb1.block _ (by simp)), hk1, (unhide HW).trans (hb1.mono (by simp; omega)), hp⟩
  have H3 := Seg.fresh w1 63 .u32 z64
  have hs3 := Seg.stored (k := .u32) (w := w1.alloc (.cells (Ar .u32 z64) 63)) (b := w1.heap.size) (o := 0) ws (by rw [unhide HWL]; exact H3.2)
  have F := Fr.setCells (S := fun _ => False) (a := w1) w1.heap.size (.inl (Nat.le_refl _)) (ws.map (Value.int .u32)) 0 ((Fr.refl _ w1).alloc (.cells (Ar .u32 z64) 63))
  have hb12 := F.below (Nat.le_refl _) (by simp)
  have hg1 := unhide HG1
  have HG2 : Hid (Seg ((w1.alloc (.cells (Ar .u32 z64) 63)).setCells w1.heap.size 0 (ws.map (Value.int .u32))) w.heap.size 0 .u32 v ∧ Seg ((w1.alloc (.cells (Ar .u32 z64) 63)).setCells w1.heap.size 0 (ws.map (Value.int .u32))) (w.heap.size + 1 + 1) 0 .u32 z8 ∧ KT ((w1.alloc (.cells (Ar .u32 z64) 63)).setCells w1.heap.size 0 (ws.map (Value.int .u32))) ∧ Below w.heap.size w ((w1.alloc (.cells (Ar .u32 z64) 63)).setCells w1.heap.size 0 (ws.map (Value.int .u32))) ∧ Seg ((w1.alloc (.cells (Ar .u32 z64) 63)).setCells w1.heap.size 0 (ws.map (Value.int .u32))) w1.heap.size 0 .u32 ws ∧ w.heap.size + 1 + 1 < w1.heap.size) :=
    ⟨hg1.1.keepB (hb12.block _ (by omega)), hg1.2.1.keepB (hb12.block _ (by omega)), hg1.2.2.1.below (by omega) hb12, hg1.2.2.2.1.trans (hb12.mono (by omega)), hs3, hp⟩
  have HTh : Hid ((w1.alloc (.cells (Ar .u32 z64) 63)).there w1.heap.size 0 64) := H3.2
  clear hb1 hk1 hp H3 hs3 F hb12 hg1 HG1 H0 H1 H2 HW hC HL hz46
  go_wp2_with (first | (refine wpList_alloc_ar rfl 63 rfl (Ar .u32 z64) 64 (unhide hz63) ?_) | (refine wpList_store_ar rfl 63 _ _ rfl w1.heap.size 0 rfl .u32 ws 64 rfl (unhide HWL) (unhide HTh) Tryd.info63 ?_))
  clear HTh hz63
  generalize (w1.alloc (.cells (Ar .u32 z64) 63)).setCells w1.heap.size 0 (ws.map (Value.int .u32)) = w2 at *
  generalize w1.heap.size = p5 at *
  have c0 := (unhide HG2).1.cell 0 (by rw [unhide HV]; omega)
  have c1 := (unhide HG2).1.cell 1 (by rw [unhide HV]; omega)
  have c2 := (unhide HG2).1.cell 2 (by rw [unhide HV]; omega)
  have c3 := (unhide HG2).1.cell 3 (by rw [unhide HV]; omega)
  have c4 := (unhide HG2).1.cell 4 (by rw [unhide HV]; omega)
  have c5 := (unhide HG2).1.cell 5 (by rw [unhide HV]; omega)
  have c6 := (unhide HG2).1.cell 6 (by rw [unhide HV]; omega)
  have c7 := (unhide HG2).1.cell 7 (by rw [unhide HV]; omega)
  simp only [Nat.zero_add] at c0 c1 c2 c3 c4 c5 c6 c7
  obtain ⟨V, hV⟩ : ∃ V, Hid (w8 v = V) := ⟨_, rfl⟩
  have hS0 : Hid (w8 v = ⟨v.getD 0 0, v.getD 1 0, v.getD 2 0, v.getD 3 0, v.getD 4 0, v.getD 5 0, v.getD 6 0, v.getD 7 0⟩) := rfl
  have hSF : Hid (∀ s : W8, sumF v s = [(v.getD 0 0 + s.a) % 4294967296, (v.getD 1 0 + s.b) % 4294967296, (v.getD 2 0 + s.c) % 4294967296, (v.getD 3 0 + s.d) % 4294967296, (v.getD 4 0 + s.e) % 4294967296, (v.getD 5 0 + s.f) % 4294967296, (v.getD 6 0 + s.g) % 4294967296, (v.getD 7 0 + s.h) % 4294967296]) := fun s => rfl
  rw [unhide hV] at hS0 hbf
  generalize v.getD 0 0 = v0 at *
  generalize v.getD 1 0 = v1 at *
  generalize v.getD 2 0 = v2 at *
  generalize v.getD 3 0 = v3 at *
  generalize v.getD 4 0 = v4 at *
  generalize v.getD 5 0 = v5 at *
  generalize v.getD 6 0 = v6 at *
  generalize v.getD 7 0 = v7 at *
  go_quiet (fail)
  obtain ⟨kt, hkt⟩ : ∃ kt, Hid (ktab = kt) := ⟨_, rfl⟩
  have HKL : Hid (kt.length = 64) := by rw [Hid, ← unhide hkt]; exact ktab_len
  have hKR : Hid ((w2.drewN nq).rangeAt 0 0 (kt.map (Value.int .u32))) := by
    rw [← unhide hkt]
    exact fun j v hv => (World.cell?_of_block (w := w2) (by rw [drewN_heap])).trans ((unhide HG2).2.2.1.1 j v hv)
  have HBW : Hid (BW w w.heap.size (w.heap.size + 1 + 1) p5 v ws (w2.drewN nq)) := BW.drewN ⟨(unhide HG2).1, (unhide HG2).2.1.2, (unhide HG2).2.2.2.2.1, (unhide HG2).2.2.2.1⟩ nq
  have hst : Hid (∀ n, st ws V (n + 1) = roundF (st ws V n) (kt.getD n 0) (ws.getD n 0)) := by rw [Hid, ← unhide hkt]; exact fun n => rfl
  clear c0 c1 c2 c3 c4 c5 c6 c7 HG2 HK
  generalize w2.drewN nq = w3 at *
  go_wp2_with (first | (refine wpList_load_mid rfl 63 _ rfl 0 0 rfl (kt.map (Value.int .u32)) _ (unhide hKR) Tryd.underlying63 rfl (by rw [List.length_map, unhide HKL]; exact Tryd.info63) ?_))
  rw [show (kt.map (Value.int .u32)).toArray = Ar .u32 kt from rfl]
  go_loopg [6, 7, 8, 9, 10, 11, 12, 13, 37] 64 (fun k a b c d e f g h s wr => ∃ (j : Nat), Hid (j + k = 64) ∧ j ≤ 64 ∧ s = .int .i64 (j : Int) ∧ a = .int .u32 (st ws V j).a ∧ b = .int .u32 (st ws V j).b ∧ c = .int .u32 (st ws V j).c ∧ d = .int .u32 (st ws V j).d ∧ e = .int .u32 (st ws V j).e ∧ f = .int .u32 (st ws V j).f ∧ g = .int .u32 (st ws V j).g ∧ h = .int .u32 (st ws V j).h ∧ Hid (BW w w.heap.size (w.heap.size + 1 + 1) p5 v ws wr))
  case atStart =>
    have e0 : st ws V 0 = V := rfl
    exact ⟨0, by unfold Hid; omega, by omega, rfl, by rw [e0, unhide hS0], by rw [e0, unhide hS0], by rw [e0, unhide hS0], by rw [e0, unhide hS0], by rw [e0, unhide hS0], by rw [e0, unhide hS0], by rw [e0, unhide hS0], by rw [e0, unhide hS0], HBW⟩
  case round =>
    obtain ⟨j, hj, hj64, rfl, rfl, rfl, rfl, rfl, rfl, rfl, rfl, rfl, hG⟩ := hrel
    by_cases hlt : j < 64
    · have hkx := fun w => run_index_ar (P := Tryd.prog) w 63 41 64 Tryd.underlying63 (Tryd.isAgg41 w) (Tryd.sizeOf41 w) .u32 .i64 kt (unhide HKL) j (by rw [unhide HKL]; exact hlt)
      have hcw := (unhide hG).2.2.1.cell j (by rw [unhide HWL]; exact hlt)
      rw [Nat.zero_add] at hcw
      have hnext := hide (unhide hst j)
      generalize hS : st ws V j = S at *
      obtain ⟨a, b, c, d, e, f, g, h⟩ := S
      generalize kt.getD j 0 = kj at *
      generalize ws.getD j 0 = wj at *
      have i1 : (0 : Int) ≤ (j : Int) := by omega
      have i2 : (j : Int) < 64 := by omega
      simp only
      clear hS
      obtain ⟨X, hX⟩ : ∃ X : Int → Int → Int, Hid (X = fun a b => bits .xor .u32 a b) := ⟨_, rfl⟩
      obtain ⟨Y, hY⟩ : ∃ Y : Int → Int → Int, Hid (Y = fun a b => bits .and .u32 a b) := ⟨_, rfl⟩
      obtain ⟨R, hR⟩ : ∃ R : Int → Int → Int, Hid (R = fun a b => rot a b) := ⟨_, rfl⟩
      obtain ⟨NM, hNM⟩ : ∃ NM : Int, Hid (NM = if IntKind.u32.signed = true then -1 else IntKind.u32.max) := ⟨_, rfl⟩
      have rx : ∀ a b, bits .xor .u32 a b = X a b := fun a b => by rw [unhide hX]
      have ry : ∀ a b, bits .and .u32 a b = Y a b := fun a b => by rw [unhide hY]
      have rr : ∀ a b, rot a b = R a b := fun a b => by rw [unhide hR]
      have rn : (if IntKind.u32.signed = true then (-1 : Int) else IntKind.u32.max) = NM := (unhide hNM).symm
      have ht1 : Hid (t1F ⟨a, b, c, d, e, f, g, h⟩ kj wj = ((h + X (X (R e 6) (R e 11)) (R e 25) + X (Y e f) (Y (X NM e) g) + kj) % 4294967296 + wj) % 4294967296) := by
        rw [Hid, Int.emod_add_emod, ← rn, ← rx, ← rx, ← rx, ← rx, ← ry, ← ry, ← rr, ← rr, ← rr]
        rfl
      have ht2 : Hid (t2F ⟨a, b, c, d, e, f, g, h⟩ = (X (X (R a 2) (R a 13)) (R a 22) + X (X (Y a b) (Y a c)) (Y b c)) % 4294967296) := by
        rw [Hid, ← rx, ← rx, ← rx, ← rx, ← ry, ← ry, ← ry, ← rr, ← rr, ← rr]
        rfl
      go_wp2
      go_quiet (first | (go_at_call 33; exact Calls.quiet_of_same (turn_any _ _ (by simp [Turns]) _)))
      generalize ((h + X (X (R e 6) (R e 11)) (R e 25) + X (Y e f) (Y (X NM e) g) + kj) % 4294967296 + wj) % 4294967296 = T1 at *
      have HB2 := hide ((unhide hG).drewN nq)
      clear hcw hG
      generalize wr.drewN nq = wq at *
      go_wp2_with fail
      refine (turn_2 _ _).mono ?_
      rintro e' w' ⟨rfl, hww⟩
      subst hww
      go_wp2_with fail
      refine (turn_13 _ _).mono ?_
      rintro e' w' ⟨rfl, hww⟩
      subst hww
      go_wp2_with fail
      refine (turn_22 _ _).mono ?_
      rintro e' w' ⟨rfl, hww⟩
      subst hww
      go_wp2
      go_roundg (gk - 1)
      case measure => have := unhide hj; omega
      case rel =>
        refine ⟨j + 1, by have := unhide hj; unfold Hid; omega, by omega, by go_num, ?_, ?_, ?_, ?_, ?_, ?_, ?_, ?_, HB2⟩
        · rw [unhide hnext]
          show Value.int .u32 _ = .int .u32 ((t1F ⟨a, b, c, d, e, f, g, h⟩ kj wj + t2F ⟨a, b, c, d, e, f, g, h⟩) % 4294967296)
          rw [unhide ht1, unhide ht2]
        · rw [unhide hnext]; rfl
        · rw [unhide hnext]; rfl
        · rw [unhide hnext]; rfl
        · rw [unhide hnext]
          show Value.int .u32 _ = .int .u32 ((d + t1F ⟨a, b, c, d, e, f, g, h⟩ kj wj) % 4294967296)
          rw [unhide ht1]
        · rw [unhide hnext]; rfl
        · rw [unhide hnext]; rfl
        · rw [unhide hnext]; rfl
    · obtain rfl : j = 64 := by omega
      generalize hS : st ws V 64 = S at *
      obtain ⟨a, b, c, d, e, f, g, h⟩ := S
      have hF : Hid (behF v blk = [(v0 + a) % 4294967296, (v1 + b) % 4294967296, (v2 + c) % 4294967296, (v3 + d) % 4294967296, (v4 + e) % 4294967296, (v5 + f) % 4294967296, (v6 + g) % 4294967296, (v7 + h) % 4294967296]) := (unhide hbf).trans (unhide hSF _)
      simp only
      have c0 := (unhide hG).1.cell 0 (by rw [unhide HV]; omega)
      have c1 := (unhide hG).1.cell 1 (by rw [unhide HV]; omega)
      have c2 := (unhide hG).1.cell 2 (by rw [unhide HV]; omega)
      have c3 := (unhide hG).1.cell 3 (by rw [unhide HV]; omega)
      have c4 := (unhide hG).1.cell 4 (by rw [unhide HV]; omega)
      have c5 := (unhide hG).1.cell 5 (by rw [unhide HV]; omega)
      have c6 := (unhide hG).1.cell 6 (by rw [unhide HV]; omega)
      have c7 := (unhide hG).1.cell 7 (by rw [unhide HV]; omega)
      have hve : Hid (v.getD 0 0 = v0 ∧ v.getD 1 0 = v1 ∧ v.getD 2 0 = v2 ∧ v.getD 3 0 = v3 ∧ v.getD 4 0 = v4 ∧ v.getD 5 0 = v5 ∧ v.getD 6 0 = v6 ∧ v.getD 7 0 = v7) := by
        have h1 := unhide hV
        rw [unhide hS0] at h1
        simpa [w8, Hid] using h1
      obtain ⟨q0, q1, q2, q3, q4, q5, q6, q7⟩ := unhide hve
      rw [Nat.zero_add, q0] at c0
      rw [Nat.zero_add, q1] at c1
      rw [Nat.zero_add, q2] at c2
      rw [Nat.zero_add, q3] at c3
      rw [Nat.zero_add, q4] at c4
      rw [Nat.zero_add, q5] at c5
      rw [Nat.zero_add, q6] at c6
      rw [Nat.zero_add, q7] at c7
      clear q0 q1 q2 q3 q4 q5 q6 q7 hS hve
      go_wp2_with (first | (refine wpList_store_ar rfl 46 _ _ rfl (w.heap.size + 1 + 1) 0 rfl .u32 [(v0 + a) % 4294967296, (v1 + b) % 4294967296, (v2 + c) % 4294967296, (v3 + d) % 4294967296, (v4 + e) % 4294967296, (v5 + f) % 4294967296, (v6 + g) % 4294967296, (v7 + h) % 4294967296] 8 rfl rfl (unhide hG).2.1 Tryd.info46 ?_))
      obtain ⟨ys, hys⟩ : ∃ ys : List Int, ys = [(v0 + a) % 4294967296, (v1 + b) % 4294967296, (v2 + c) % 4294967296, (v3 + d) % 4294967296, (v4 + e) % 4294967296, (v5 + f) % 4294967296, (v6 + g) % 4294967296, (v7 + h) % 4294967296] := ⟨_, rfl⟩
      have hyl : ys.length = 8 := by rw [hys]; rfl
      rw [← hys] at hF ⊢
      clear hys
      have hs := Seg.stored (k := .u32) ys (by rw [hyl]; exact (unhide hG).2.1)
      refine bodyPost_ret (v := .agg (Ar .u32 ys)) ?_ rfl ⟨by rw [unhide hF], ?_⟩
      · rw [results_cell_one rfl]
        have hld := run_loadVar_ar (P := Tryd.prog) _ (w.heap.size + 1 + 1) 0 46 .u32 ys _ 8 hs hyl Tryd.underlying46 rfl Tryd.info46
        exact hld
      · have F := Fr.setCells (S := fun _ => False) (a := w) (w.heap.size + 1 + 1) (.inl (by omega)) (ys.map (Value.int .u32)) 0 (Fr.of_below (unhide hG).2.2.2)
        exact F.below (Nat.le_refl _) (by simp)
end Go.Proofs.YtlkcjimkgebeiaaDoor
