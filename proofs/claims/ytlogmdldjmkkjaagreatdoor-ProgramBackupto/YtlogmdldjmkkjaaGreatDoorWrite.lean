/-
  Write of a hash.
-/
import Derived.Test.YtlogmdldjmkkjaaGreatDoorHash
namespace Go.Proofs.YtlogmdldjmkkjaaGreatDoor.dg
open Go.RowKit

/-- The words behind the first m blocks. -/
def wordsOf (all : List Int) : Nat → List Int
  | 0 => iv
  | m + 1 => behF (wordsOf all m) ((all.drop (64 * m)).take 64)
theorem wordsOf_app (all x : List Int) : ∀ m, 64 * m ≤ all.length → wordsOf (all ++ x) m = wordsOf all m
  | 0, _ => rfl
  | m + 1, h => by
    rw [wordsOf, wordsOf, wordsOf_app all x m (by omega), List.drop_append_of_le_length (by omega), List.take_append_of_le_length (by rw [List.length_drop]; omega)]
/-- A hash holds these bytes. -/
structure FD (all v op : List Int) (n : Nat) : Prop where
  nl : n = all.length
  vv : v = wordsOf all (n / 64)
  oo : op.take (n % 64) = all.drop (64 * (n / 64))
  lo : op.length = 64
theorem FD.start : FD [] iv z64 0 := ⟨rfl, rfl, rfl, rfl⟩
/-- The open block behind one more piece. -/
def opb (op : List Int) (h : Nat) (c : List Int) : List Int := op.take h ++ c ++ op.drop (h + c.length)
theorem opn_len (op : List Int) (h : Nat) (c : List Int) (ho : op.length = 64) (hc : h + c.length ≤ 64) : (opb op h c).length = 64 := by
  unfold opb; simp only [List.length_append, List.length_take, List.length_drop, ho]; omega
theorem opn_take (op : List Int) (h : Nat) (c : List Int) (ho : op.length = 64) (hc : h + c.length ≤ 64) : (opb op h c).take (h + c.length) = op.take h ++ c := by
  unfold opb
  rw [List.take_append_of_le_length (by simp only [List.length_append, List.length_take, ho]; omega), List.take_of_length_le (by simp only [List.length_append, List.length_take, ho]; omega)]
theorem FD.step {all v op : List Int} {n : Nat} (h : FD all v op n) (c : List Int) (hc : n % 64 + c.length ≤ 64) :
    FD (all ++ c) (if (n + c.length) % 64 = 0 ∧ c ≠ [] then behF v (opb op (n % 64) c) else v) (opb op (n % 64) c) (n + c.length) := by
  have h1 := h.nl
  have h2 := opn_take op (n % 64) c h.lo hc
  refine ⟨by rw [List.length_append, h.nl], ?_, ?_, opn_len op _ c h.lo hc⟩
  · by_cases hz : (n + c.length) % 64 = 0 ∧ c ≠ []
    · rw [if_pos hz]
      have hcl : 0 < c.length := List.length_pos_iff.2 hz.2
      have hf : n % 64 + c.length = 64 := by have := hz.1; omega
      have hd : (n + c.length) / 64 = n / 64 + 1 := by omega
      rw [hd, wordsOf, wordsOf_app all c _ (by omega), ← h.vv]
      congr 1
      rw [hf, List.take_of_length_le (by rw [opn_len op _ c h.lo hc]; omega)] at h2
      rw [h2, h.oo, List.drop_append_of_le_length (by omega), List.take_of_length_le (by rw [List.length_append, List.length_drop]; omega)]
    · rw [if_neg hz]
      have hd : (n + c.length) / 64 = n / 64 := by
        by_cases hcn : c = []
        · rw [hcn]; rfl
        · have : ¬ (n + c.length) % 64 = 0 := fun e => hz ⟨e, hcn⟩
          omega
      rw [hd, wordsOf_app all c _ (by omega)]
      exact h.vv
  · by_cases hf : n % 64 + c.length = 64
    · have hm : (n + c.length) % 64 = 0 := by omega
      have hd : (n + c.length) / 64 = n / 64 + 1 := by omega
      rw [hm, hd, List.take_zero, List.drop_of_length_le (by rw [List.length_append]; omega)]
    · have hm : (n + c.length) % 64 = n % 64 + c.length := by omega
      have hd : (n + c.length) / 64 = n / 64 := by omega
      rw [hm, hd, h2, h.oo, List.drop_append_of_le_length (by omega)]
theorem opn_bok {op c : List Int} (h : Nat) (ho : BOk op) (hc : BOk c) : BOk (opb op h c) := by
  intro b hb
  unfold opb at hb
  rcases List.mem_append.1 hb with hb | hb
  · rcases List.mem_append.1 hb with hb | hb
    · exact ho b (List.mem_of_mem_take hb)
    · exact hc b hb
  · exact ho b (List.mem_of_mem_drop hb)


theorem Tryz.elem22 : Tryz.prog.elem 27 = 5 := by kernel_rfl
/-- What is left of a slice behind its first k. -/
def cutV (b off n cap k : Nat) : Value := .slice (some (if cap = k then ⟨b, off, none⟩ else ⟨b, off + k, none⟩)) (n - k) (cap - k)
theorem run_cut (b off n cap k : Nat) (hk : k ≤ n) (w : World) : (Instr.sliceAt 27 (.slice (some ⟨b, off, none⟩) n cap) (some (.int .i64 (k : Int))) none none).run Tryz.prog w = .ok (cutV b off n cap k) w := by
  have hu : Tryz.prog.underlying 27 = some (.slice (Tryz.prog.elem 27)) := by rw [Tryz.elem22]; exact Tryz.underlying27
  have h := run_slice_l (P := Tryz.prog) w 27 (some ⟨b, off, none⟩) n cap hu .i64 (k : Int) (by omega) (by omega)
  rw [Tryz.elem22, Tryz.sizeOf5, Result.andThen_ok] at h
  have h2 : (Instr.sliceAt 27 (.slice (some ⟨b, off, none⟩) n cap) (some (.int .i64 (k : Int))) none none).run Tryz.prog w = (Instr.slice 27 (.slice (some ⟨b, off, none⟩) n cap) (some (.int .i64 (k : Int))) none none).run Tryz.prog w := by
    simp [Instr.sliceAt]
  rw [h2, h]
  unfold sliced cutV
  rw [Int.toNat_natCast, Nat.mul_one]
  by_cases hc : cap = k
  · rw [if_pos hc, if_pos hc]
  · rw [if_neg hc, if_neg hc, Option.map_some, addr_add]
theorem cut_rd {w : World} {b off n cap : Nat} {bs : List Int} (h : Rd w (.slice (some ⟨b, off, none⟩) n cap) bs) (k : Nat) (hk : k ≤ bs.length) : Rd w (cutV b off n cap k) (bs.drop k) := by
  rcases h with ⟨e, _⟩ | ⟨b', off', cap', e, h1, h2, h3, h4⟩
  · cases e
  · simp only [Value.slice.injEq, Option.some.injEq, Addr.mk.injEq] at e
    obtain ⟨⟨rfl, rfl, _⟩, rfl, rfl⟩ := e
    have hl : (bs.drop k).length = bs.length - k := List.length_drop
    unfold cutV
    by_cases hc : cap = k
    · have h0 : bs.drop k = [] := List.drop_of_length_le (by omega)
      rw [if_pos hc, h0]
      refine .inr ⟨b, off, cap - k, by rw [show bs.length - k = 0 by omega]; rfl, by simp, by omega, h3, fun i hi => by simp at hi⟩
    · rw [if_neg hc]
      refine .inr ⟨b, off + k, cap - k, by rw [hl], by rw [hl]; omega, by omega, h3, fun i hi => ?_⟩
      rw [hl] at hi
      rw [Nat.add_assoc, h4 (k + i) (by omega), List.getD, List.getD, List.getElem?_drop]
theorem wpList_slice_l {P : Program} {ops : Array Oper} {rest : List Oper} {op : Oper} {a : Act} {w : World} {Q : Exit → Act → World → Prop} (hgd : op.guard = none) (t : TypeId) (x l : Operand) (ho : op.op = .slice t x (some l) none none)
    (xv lv v : Value) (hx : a.eval x = xv) (hl : a.eval l = lv) (hb : (Instr.sliceAt t xv (some lv) none none).run P w = .ok v w)
    (h : wpList P ops Q rest (a.put op.dst v) w) : wpList P ops Q (op :: rest) a w := by
  refine wpList_plain hgd fun K hK => ?_
  unfold Oper.wp execOp
  simp only [ho, hx, hl, Option.map_some, Option.map_none, Sem.run_bind, hb, Result.andThen_ok, Sem.run_pure]
  exact hK _ _ h
theorem stepW_store {P : Program} {ops : Array Oper} {op : Oper} {a : Act} {w : World} {K : Act → World → Prop} {Q : Exit → Act → World → Prop} {E : Prop} (hgd : op.guard = none) (ty : TypeId) (x y : Operand) (ho : op.op = .store ty x y)
    (b o : Nat) (hx : a.eval x = .pointer (some ⟨b, o, none⟩)) (k : IntKind) (ys : List Int) (n : Nat) (hy : a.eval y = .agg (Ar k ys)) (hn : ys.length = n)
    (ht : w.there b o n) (hi : (P.info? ty).map (·.size) = some n)
    (h : K (a.put op.dst undef) (w.setCells b o (ys.map (Value.int k)))) : if Region.wanted op (yielded ops a.tmps) = true then Oper.wp P op a w K Q else E := by
  rw [if_pos (by simp [Region.wanted, hgd])]
  exact wp_store_mid ty x y ho b o (Ar k ys) hx hy (by rw [Ar_size, hn]; exact ht) (by rw [hi, Ar_size, hn]) (Ar_one k ys) h
theorem stepW_load {P : Program} {ops : Array Oper} {op : Oper} {a : Act} {w : World} {K : Act → World → Prop} {Q : Exit → Act → World → Prop} {E : Prop} (hgd : op.guard = none) (ty : TypeId) (x : Operand) (ho : op.op = .load ty x)
    (b o : Nat) (hx : a.eval x = .pointer (some ⟨b, o, none⟩)) (k : IntKind) (xs : List Int) (d : TypeDesc) (n : Nat) (hc : Seg w b o k xs) (hn : xs.length = n)
    (hu : P.underlying ty = some d) (hd : d.isRow = true) (hi : (P.info? ty).map (·.size) = some n)
    (h : K (a.put op.dst (.agg (Ar k xs))) w) : if Region.wanted op (yielded ops a.tmps) = true then Oper.wp P op a w K Q else E := by
  rw [if_pos (by simp [Region.wanted, hgd])]
  exact wp_load_mid ty x ho b o hx (xs.map (Value.int k)) d hc.1 hu hd (by rw [hi, List.length_map, hn]) h
theorem run_sl49 (p h : Nat) (hh : h < 64) (w : World) : (Instr.sliceAt 160 (.pointer (some ⟨p, 8, none⟩)) (some (.int .i64 (h : Int))) none none).run Tryz.prog w = .ok (.slice (some ⟨p, 8 + h, none⟩) (64 - h) (64 - h)) w := by
  have e1 : Tryz.prog.arrayLen 160 = 64 := by kernel_rfl
  have e2 : Tryz.prog.elem 160 = 5 := by kernel_rfl
  have hu : Tryz.prog.underlying 160 = some (.array (Tryz.prog.arrayLen 160) (Tryz.prog.elem 160)) := by rw [e1, e2]; exact Tryz.underlying160
  have h := run_sliceAt_array_l (P := Tryz.prog) w 160 ⟨p, 8, none⟩ hu .i64 (h : Int) (by omega) (by rw [e1]; omega)
  rw [e1, e2, Tryz.sizeOf5, Result.andThen_ok] at h
  rw [h]
  unfold slicedAt
  rw [Int.toNat_natCast, Nat.mul_one, if_neg (by omega), addr_add]
theorem yieldsIf_sl49 {ops : Array Oper} {S : World → Prop} {op : Oper} {a : Act} (hw : Region.wanted op (yielded ops a.tmps) = true) (x l : Operand) (ho : op.op = .slice 160 x (some l) none none)
    (p h : Nat) (hx : a.eval x = .pointer (some ⟨p, 8, none⟩)) (hl : a.eval l = .int .i64 (h : Int)) (hh : h < 64) : YieldsIf Tryz.prog ops S op (.slice (some ⟨p, 8 + h, none⟩) (64 - h) (64 - h)) a :=
  .inl ⟨hw, fun w _ => by
    unfold execOp
    simp only [ho, hx, hl, Option.map_some, Option.map_none, Sem.run_bind, run_sl49 p h hh w, Result.andThen_ok, Sem.run_pure]⟩


/-- What holds ahead of a round. -/
structure WS (w0 : World) (p : Nat) (all : List Int) (tl dg : List Int) (vb : Value) (rest : List Int) (w : World) : Prop where
  hs : ∃ v op n, Hs w p v op n tl dg ∧ FD all v op n
  rd : Rd w vb rest
  ap : ∀ b off n c, vb = .slice (some ⟨b, off, none⟩) n c → b ≠ p
  kt : KT w
  fr : Fr (fun k => k = p) w0 w
  lt : p < w0.heap.size

theorem Seg.rng {w : World} {b o : Nat} {k : IntKind} {xs : List Int} (h : Seg w b o k xs) : w.rangeAt b o (xs.map (Value.int k)) := h.1
/-- Behind the copy. -/
theorem Hs.copied {w : World} {p : Nat} {v op : List Int} {n : Nat} {tl dg : List Int} (h : Hs w p v op n tl dg) (i : Nat) (c : List Int) (hc : i + c.length ≤ 64) (hB : BOk c) : Hs (w.setCells p (8 + i) (c.map (Value.int .u8))) p v (opb op i c) n tl dg := by
  have hl : (c.map (Value.int .u8)).length = c.length := List.length_map _
  refine ⟨h.wds.apart _ _ _ (.inr (.inl (by rw [h.lv]; omega))), h.opn.splice i c (by rw [h.lo]; exact hc), h.cnt.apart _ _ _ (.inr (.inr (by rw [hl]; omega))), h.til.apart _ _ _ (.inr (.inr (by rw [hl]; omega))), h.dgs.apart _ _ _ (.inr (.inr (by rw [hl]; omega))), h.lv, opn_len op i c h.lo hc, h.lt, h.ld, opn_bok i h.bo hB⟩
/-- Behind the count. -/
theorem Hs.counted {w : World} {p : Nat} {v op : List Int} {n m : Nat} {tl dg : List Int} (h : Hs w p v op n tl dg) (y : Int) (hy : y = (m : Int)) : Hs (w.setCell ⟨p, 72, none⟩ (.int .u64 y)) p v op m tl dg := by
  subst hy
  refine ⟨h.wds.other _ _ (.inr (.inr (by rw [h.lv]; simp))), h.opn.other _ _ (.inr (.inr (by rw [h.lo]; simp))), ?_, h.til.other _ _ (.inr (.inl (by simp))), h.dgs.other _ _ (.inr (.inl (by simp))), h.lv, h.lo, h.lt, h.ld, h.bo⟩
  exact h.cnt.set 0 (by simp) _
/-- Behind the words. -/
theorem Hs.worded {w : World} {p : Nat} {v v' op : List Int} {n : Nat} {tl dg : List Int} (h : Hs w p v op n tl dg) (hv : v'.length = 8) : Hs (w.setCells p 0 (v'.map (Value.int .u32))) p v' op n tl dg := by
  have hl : (v'.map (Value.int .u32)).length = 8 := by rw [List.length_map, hv]
  refine ⟨Seg.stored v' (by rw [hv]; have := h.wds.2; rwa [h.lv] at this), h.opn.apart _ _ _ (.inr (.inr (by rw [hl]; omega))), h.cnt.apart _ _ _ (.inr (.inr (by rw [hl]; omega))), h.til.apart _ _ _ (.inr (.inr (by rw [hl]; omega))), h.dgs.apart _ _ _ (.inr (.inr (by rw [hl]; omega))), hv, h.lo, h.lt, h.ld, h.bo⟩

set_option maxHeartbeats 6400000 in
set_option maxRecDepth 100000 in
theorem write_any (p : Nat) (all tl dg : List Int) (vb : Value) (bs : List Int) (w : World) (h : WS w p all tl dg vb bs w) (hB : BOk bs) (hp0 : 1 < p) (hN : all.length + bs.length < 1152921504606846976) (hM : bs.length ≤ 140737488355328) :
    Calls Tryz.prog 54 #[.pointer (some ⟨p, 0, none⟩), vb] w fun e w' => e = .returned (.tuple #[]) ∧ ∃ v op n, Hs w' p v op n tl dg ∧ FD (all ++ bs) v op n ∧ Fr (fun k => k = p) w w' := by
  have HH := hide h
  have HB := hide hB
  have Hp0 := hide hp0
  have HN := hide hN
  have HM := hide hM
  clear h hB hp0 hN hM
  go_enter Tryz.func54, Tryz.ntmps54
  go_wp2
  go_loopg [1] bs.length (fun k s wr => ∃ (dn rs : List Int), Hid (dn ++ rs = bs) ∧ Hid (rs.length = k) ∧ Hid (WS w p (all ++ dn) tl dg s rs wr))
  case atStart => exact ⟨[], bs, by rfl, rfl, by rw [List.append_nil]; exact HH⟩
  case round =>
    obtain ⟨dn, rs, hbs, hk, hW⟩ := hrel
    obtain ⟨a, cap, hvb⟩ := (unhide hW).rd.shapeR
    subst hvb
    by_cases hlt : 0 < rs.length
    · obtain ⟨cb, co, rfl, hcb, _⟩ := (unhide hW).rd.at 0 hlt
      obtain ⟨v, op, n, hHs, hFD⟩ := (unhide hW).hs
      have hrd := (unhide hW).rd
      have hne : cb ≠ p := (unhide hW).ap _ _ _ _ rfl
      obtain ⟨h64, hh⟩ : ∃ h64, Hid (n % 64 = h64) := ⟨_, rfl⟩
      have hl64 : h64 < 64 := by have := unhide hh; omega
      have hS0 : (wr.drew).cell? ⟨p, 72, none⟩ = some (.int .u64 (n : Int)) := by have := hHs.cnt.cell 0 (by simp); simpa using this
      have hheld := hide (fun w' (h' : w'.cell? ⟨p, 72, none⟩ = some (.int .u64 (n : Int))) => held_any p n w' h')
      rw [unhide hh] at hheld
      obtain ⟨k, hkk⟩ : ∃ k, Hid (min rs.length (64 - h64) = k) := ⟨_, rfl⟩
      have HRS := hide hrd
      have HHs := hide (And.intro hHs hFD)
      have hll : (0 : Int) < (rs.length : Int) := by omega
      clear hHs hFD hrd
      go_wp2_with fail
      refine wp_region_held_drew (S := fun w' => w'.cell? ⟨p, 72, none⟩ = some (.int .u64 (n : Int))) (by kernel_rfl) hS0 (fun hHeld => ?_)
      refine wpAnyH_take (i := 0) (oi := _) (v := .pointer (some ⟨p, 0, none⟩)) rfl (by kernel_rfl) (by kernel_rfl) (by kernel_rfl) (fun _ _ _ h => h) (Or.inl ⟨by rfl, (by intro w hSw; go_simp)⟩) (by assumption) ?_
      refine wpAnyH_take (i := 1) (oi := _) (v := .pointer (some ⟨p, 0, none⟩)) rfl (by kernel_rfl) (by kernel_rfl) (by kernel_rfl) (fun _ _ _ h => h) (Or.inl ⟨by rfl, (by intro w hSw; go_simp)⟩) (by assumption) ?_
      refine wpAnyH_take (i := 2) (oi := _) (v := .pointer (some ⟨p, 8, none⟩)) rfl (by kernel_rfl) (by kernel_rfl) (by kernel_rfl) (fun _ _ _ h => h) (Or.inl ⟨by rfl, (by intro w hSw; go_simp)⟩) (by assumption) ?_
      refine wpAnyH_take (i := 3) (oi := _) (v := .pointer (some ⟨p, 0, none⟩)) rfl (by kernel_rfl) (by kernel_rfl) (by kernel_rfl) (fun _ _ _ h => h) (Or.inl ⟨by rfl, (by intro w hSw; go_simp)⟩) (by assumption) ?_
      refine wpAnyH_take (i := 6) (oi := _) (v := .slice (some ⟨cb, co, none⟩) rs.length cap) rfl (by kernel_rfl) (by kernel_rfl) (by kernel_rfl) (fun _ _ _ h => h) (Or.inl ⟨by rfl, (by intro w hSw; go_simp)⟩) (by assumption) ?_
      simp only [Act.put, List.setIfInBounds_toArray]
      refine wpAnyH_ready (rs := [4]) (by kernel_rfl) (by simp) ?_
      refine AllReadyH.cons (o := _) rfl (fun K hK => ?_) AllReadyH.nil
      go_simp
      refine (unhide hheld _ hHeld).mono ?_
      rintro e w' ⟨rfl, hww⟩
      subst hww
      go_simp
      refine hK.out _ _ hHeld (fun hHeldx => ?_)
      clear hK K
      refine wpAnyH_take (i := 5) (oi := _) (v := .slice (some ⟨p, 8 + h64, none⟩) (64 - h64) (64 - h64)) rfl (by kernel_rfl) (by kernel_rfl) (by kernel_rfl) (fun _ _ _ h => h) (yieldsIf_sl49 (by rfl) _ _ rfl p h64 rfl rfl hl64) (by assumption) ?_
      refine wpAnyH_ready (rs := [7]) (by kernel_rfl) (by simp) ?_
      refine AllReadyH.cons (o := _) rfl (fun K hK => ?_) AllReadyH.nil
      have hRd2 : Rd wr.drew (.slice (some ⟨cb, co, none⟩) rs.length cap) rs := (unhide HRS).below ((Below.refl _ _).drew)
      have hth : wr.drew.there p (8 + h64) (min rs.length (64 - h64)) := fun j hj => by
        have hj2 : h64 + j < 64 := by omega
        have := (unhide HHs).1.opn.drew.2 (h64 + j) (by rw [(unhide HHs).1.lo]; exact hj2)
        rwa [← Nat.add_assoc] at this
      refine step_copy_ar rfl _ _ rfl p (8 + h64) (64 - h64) (64 - h64) rfl (.slice (some ⟨cb, co, none⟩) rs.length cap) rs rfl hRd2 hth ?_
      have hcl : (rs.take (64 - h64)).length = k := by rw [List.length_take, ← unhide hkk]; omega
      have hcB : BOk (rs.take (64 - h64)) := fun b hb => unhide HB b (by rw [← unhide hbs]; exact List.mem_append_right _ (List.mem_of_mem_take hb))
      have hk0 : 0 < k := by have := unhide hkk; omega
      have hkl : k ≤ rs.length := by have := unhide hkk; omega
      have hk64 : h64 + k ≤ 64 := by have := unhide hkk; omega
      have hHs2 := ((unhide HHs).1.keepB (w' := wr.drew) rfl).copied h64 (rs.take (64 - h64)) (by rw [hcl]; exact hk64) hcB
      have hFD2 := (unhide HHs).2.step (rs.take (64 - h64)) (by rw [unhide hh, hcl]; exact hk64)
      have htk : rs.take (64 - h64) = rs.take k := by
        rw [← unhide hkk]
        by_cases hq : rs.length ≤ 64 - h64
        · rw [Nat.min_eq_left hq, List.take_of_length_le hq, List.take_of_length_le (Nat.le_refl _)]
        · rw [Nat.min_eq_right (by omega)]
      have F1 : Fr (fun k => k = p) w (wr.drew.setCells p (8 + h64) ((rs.take (64 - h64)).map (Value.int .u8))) := Fr.setCells (S := fun k => k = p) (a := w) p (.inr rfl) _ _ (unhide hW).fr.drew
      have hRd3 : Rd (wr.drew.setCells p (8 + h64) ((rs.take (64 - h64)).map (Value.int .u8))) (.slice (some ⟨cb, co, none⟩) rs.length cap) rs :=
        hRd2.keep (Fr.setCells (S := fun k => k = p) (a := wr.drew) p (.inr rfl) _ _ (Fr.refl _ _)) (fun b off n c e => by simp only [Value.slice.injEq, Option.some.injEq, Addr.mk.injEq] at e; rw [← e.1.1]; exact hne)
      have hKT2 : KT (wr.drew.setCells p (8 + h64) ((rs.take (64 - h64)).map (Value.int .u8))) := by
        have hF := Fr.setCells (S := fun k => k = p) (a := wr.drew) p (.inr rfl) ((rs.take (64 - h64)).map (Value.int .u8)) (8 + h64) (Fr.refl _ wr.drew)
        exact ⟨fun j v hv => (World.cell?_of_block (w := wr) (hF.block 1 (unhide hW).kt.2 (by have := unhide Hp0; omega))).trans ((unhide hW).kt.1 j v hv), Nat.lt_of_lt_of_le (unhide hW).kt.2 hF.size⟩
      rw [unhide hkk]
      rw [hcl] at hFD2
      rw [unhide hh] at hFD2
      have hnr : k ≠ 0 := by omega
      have hce : rs.take (64 - h64) ≠ [] := fun e => by rw [e] at hcl; simp at hcl; omega
      generalize wr.drew.setCells p (8 + h64) ((rs.take (64 - h64)).map (Value.int .u8)) = wc at *
      have hS1 : wc.cell? ⟨p, 72, none⟩ = some (.int .u64 (n : Int)) := by have := hHs2.cnt.cell 0 (by simp); simpa using this
      refine hK.out _ _ hS1 (fun hHeldx => ?_)
      clear hK K
      refine wpAnyH_ready (rs := [8]) (by kernel_rfl) (by simp) ?_
      refine AllReadyH.cons (o := _) rfl (fun K hK => ?_) AllReadyH.nil
      go_simp
      refine hK.out _ _ hS1 (fun hHeldx => ?_)
      clear hK K
      refine wpAnyH_done (by kernel_rfl) ?_ _
      have hf1 : wc.frozen? ⟨p, 72, none⟩ = false := hHs2.cnt.frz 0 (by simp)
      obtain ⟨op2, hop2⟩ : ∃ op2, Hid (opb op h64 (rs.take (64 - h64)) = op2) := ⟨_, rfl⟩
      rw [unhide hop2] at hHs2 hFD2
      have hbn : n + k < 1152921504606846976 := by
        have h1 := unhide HN
        have h2 := (unhide HHs).2.nl
        have h3 := congrArg List.length (unhide hbs)
        rw [List.length_append] at h2 h3
        omega
      have HA := hide (And.intro hHs2 (And.intro hFD2 (And.intro F1 (And.intro hRd3 hKT2))))
      have Htk := hide (And.intro htk hce)
      clear hHs2 hFD2 F1 hRd3 hKT2 htk hce hRd2 hth hcl hcB hS0 hHeld hHeldx
      go_simp
      have e1 : (n : Int) + (k : Int) < 18446744073709551616 := by omega
      have e2 : (0 : Int) ≤ (k : Int) := by omega
      have e3 : (k : Int) ≤ (rs.length : Int) := by omega
      have hcut := hide (fun w => run_cut cb co rs.length cap k hkl w)
      have HM2 : rs.length ≤ 140737488355328 := by
        have h1 := unhide HM
        have h3 := congrArg List.length (unhide hbs)
        rw [List.length_append] at h3
        omega
      go_wp2_with (first | (refine wpList_slice_l rfl 27 _ _ rfl (.slice (some ⟨cb, co, none⟩) rs.length cap) (.int .i64 (k : Int)) (cutV cb co rs.length cap k) rfl rfl (unhide hcut _) ?_))
      obtain ⟨hHs2, hFD2, F1, hRd3, hKT2⟩ := unhide HA
      have hHs3 := hHs2.counted (m := n + k) ((n : Int) + (k : Int)) (by omega)
      have hcx : (wc.setCell ⟨p, 72, none⟩ (.int .u64 ((n : Int) + (k : Int)))).cell? ⟨p, 72, none⟩ = some (.int .u64 ((n + k : Nat) : Int)) := by
        have := hHs3.cnt.cell 0 (by simp)
        simpa using this
      have hF2 : Fr (fun k => k = p) wc (wc.setCell ⟨p, 72, none⟩ (.int .u64 ((n : Int) + (k : Int)))) := (Fr.refl (fun k => k = p) wc).setCell ⟨p, 72, none⟩ (.inr rfl) _
      have hap : ∀ b off n c, cutV cb co rs.length cap k = .slice (some ⟨b, off, none⟩) n c → b ≠ p := fun b off n c e => by
        unfold cutV at e
        split at e <;> simp only [Value.slice.injEq, Option.some.injEq, Addr.mk.injEq] at e <;> (rw [← e.1.1]; exact hne)
      have hRd4 : Rd (wc.setCell ⟨p, 72, none⟩ (.int .u64 ((n : Int) + (k : Int)))) (cutV cb co rs.length cap k) (rs.drop k) := (cut_rd hRd3 k hkl).keep hF2 hap
      have hKT3 : KT (wc.setCell ⟨p, 72, none⟩ (.int .u64 ((n : Int) + (k : Int)))) := ⟨fun j v hv => (World.cell?_of_block (w := wc) (hF2.block 1 hKT2.2 (by have := unhide Hp0; omega))).trans (hKT2.1 j v hv), Nat.lt_of_lt_of_le hKT2.2 hF2.size⟩
      have hFr3 : Fr (fun k => k = p) w (wc.setCell ⟨p, 72, none⟩ (.int .u64 ((n : Int) + (k : Int)))) := F1.setCell ⟨p, 72, none⟩ (.inr rfl) _
      rw [(unhide Htk).1] at hFD2
      have hce : rs.take k ≠ [] := by rw [← (unhide Htk).1]; exact (unhide Htk).2
      have hplt := (unhide hW).lt
      have HA3 := hide (And.intro hHs3 (And.intro hFD2 (And.intro hFr3 (And.intro hRd4 (And.intro hKT3 (And.intro hap (And.intro hce hplt)))))))
      have hC4 := hide (held_any p (n + k) _ hcx)
      clear hHs2 hFD2 F1 hRd3 hKT2 hHs3 hcx hF2 hap hRd4 hKT3 hFr3 hce hplt HA
      generalize wc.setCell ⟨p, 72, none⟩ (.int .u64 ((n : Int) + (k : Int))) = wd at *
      refine (unhide hC4).mono ?_
      rintro e w' ⟨rfl, hww⟩
      have hww := hww.symm
      subst hww
      clear hC4
      obtain ⟨hHs3, hFD2, hFr3, hRd4, hKT3, hap, hce, hplt⟩ := unhide HA3
      by_cases hz : (n + k) % 64 = 0
      · rw [if_pos ⟨hz, hce⟩] at hFD2
        have hz2 : (((n + k) % 64 : Nat) : Int) = 0 := by omega
        rw [hz2]
        obtain ⟨v2, hv2⟩ : ∃ v2, Hid (behF v op2 = v2) := ⟨_, rfl⟩
        have hvl : Hid (v2.length = 8) := by rw [Hid, ← unhide hv2]; exact behF_len v op2
        have hCB := behind_any v op2 hHs3.lv hHs3.lo hHs3.bo
        rw [unhide hv2] at hFD2 hCB
        have hCB := hide hCB
        have HF := hide (And.intro hHs3 (And.intro hFD2 (And.intro hFr3 (And.intro hRd4 (And.intro hKT3 (And.intro hap hplt))))))
        have hSd : Seg wd.drew p 8 .u8 op2 := hHs3.opn.drew
        have HL2 := hide hHs3.lo
        clear hHs3 hFD2 hFr3 hRd4 hKT3 hap hce hz hz2 HA3 hplt
        clear hheld hS1 hf1 e1 e2 e3 HM2 hcut hbn hl64 hk64 hnr Htk HHs HRS
        go_wp2_with fail
        refine wp_region_held_drew (S := fun w' => Seg w' p 8 .u8 op2) (by kernel_rfl) hSd (fun hHeld => ?_)
        refine wpAnyH_take (i := 5) (oi := _) (v := .pointer (some ⟨p, 0, none⟩)) rfl (by kernel_rfl) (by kernel_rfl) (by kernel_rfl) (fun _ _ _ h => h) (Or.inl ⟨by rfl, (by intro w hSw; go_simp)⟩) (by assumption) ?_
        refine wpAnyH_take (i := 6) (oi := _) (v := .pointer (some ⟨p, 0, none⟩)) rfl (by kernel_rfl) (by kernel_rfl) (by kernel_rfl) (fun _ _ _ h => h) (Or.inl ⟨by rfl, (by intro w hSw; go_simp)⟩) (by assumption) ?_
        refine wpAnyH_take (i := 7) (oi := _) (v := .pointer (some ⟨p, 8, none⟩)) rfl (by kernel_rfl) (by kernel_rfl) (by kernel_rfl) (fun _ _ _ h => h) (Or.inl ⟨by rfl, (by intro w hSw; go_simp)⟩) (by assumption) ?_
        refine wpAnyH_take (i := 8) (oi := _) (v := .agg (Ar .u8 op2)) rfl (by kernel_rfl) (by kernel_rfl) (by kernel_rfl) (fun _ _ _ h => h) (yieldsIf_load_mid (by rfl) 160 _ rfl p 8 rfl (op2.map (Value.int .u8)) _ (fun w h => Seg.rng h) Tryz.underlying160 rfl (by rw [List.length_map, unhide HL2]; exact Tryz.info160)) (by assumption) ?_
        go_simp
        refine wpAnyH_take (i := 0) (oi := _) (v := .pointer (some ⟨p, 0, none⟩)) rfl (by kernel_rfl) (by kernel_rfl) (by kernel_rfl) (fun _ _ _ h => h) (Or.inl ⟨by rfl, (by intro w hSw; go_simp)⟩) (by assumption) ?_
        refine wpAnyH_take (i := 1) (oi := _) (v := .pointer (some ⟨p, 0, none⟩)) rfl (by kernel_rfl) (by kernel_rfl) (by kernel_rfl) (fun _ _ _ h => h) (Or.inl ⟨by rfl, (by intro w hSw; go_simp)⟩) (by assumption) ?_
        refine wpAnyH_take (i := 2) (oi := _) (v := .pointer (some ⟨p, 0, none⟩)) rfl (by kernel_rfl) (by kernel_rfl) (by kernel_rfl) (fun _ _ _ h => h) (Or.inl ⟨by rfl, (by intro w hSw; go_simp)⟩) (by assumption) ?_
        refine wpAnyH_take (i := 3) (oi := _) (v := .pointer (some ⟨p, 0, none⟩)) rfl (by kernel_rfl) (by kernel_rfl) (by kernel_rfl) (fun _ _ _ h => h) (Or.inl ⟨by rfl, (by intro w hSw; go_simp)⟩) (by assumption) ?_
        go_simp
        refine wpAnyH_ready (rs := [4]) (by kernel_rfl) (by simp) ?_
        refine AllReadyH.cons (o := _) rfl (fun K hK => ?_) AllReadyH.nil
        have hHd : Hs wd.drew p v op2 (n + k) tl dg := (unhide HF).1.keepB rfl
        refine stepW_load rfl 157 _ rfl p 0 rfl .u32 v _ 8 hHd.wds hHd.lv Tryz.underlying157 rfl Tryz.info157 ?_
        refine hK.out _ _ hHeld (fun hHeldx => ?_)
        clear hK K
        go_simp
        refine wpAnyH_ready (rs := [9]) (by kernel_rfl) (by simp) ?_
        refine AllReadyH.cons (o := _) rfl (fun K hK => ?_) AllReadyH.nil
        go_simp
        have hKd : KT wd.drew := (unhide HF).2.2.2.2.1.below (B := 2) (by omega) ((Below.refl _ _).drew)
        refine (unhide hCB _ hKd).mono ?_
        rintro e wE ⟨rfl, hbE⟩
        have hplt := (unhide HF).2.2.2.2.2.2
        have hfz := (unhide HF).2.2.1.size
        have hHE : Hs wE p v op2 (n + k) tl dg := hHd.keepB (hbE.block p (by show p < wd.heap.size; omega))
        go_simp
        refine hK.out _ _ hHE.opn (fun hHeldx => ?_)
        clear hK K
        go_simp
        refine wpAnyH_take (i := 10) (oi := _) (v := .pointer (some ⟨p, 0, none⟩)) rfl (by kernel_rfl) (by kernel_rfl) (by kernel_rfl) (fun _ _ _ h => h) (Or.inl ⟨by rfl, (by intro w hSw; go_simp)⟩) (by assumption) ?_
        refine wpAnyH_take (i := 11) (oi := _) (v := .pointer (some ⟨p, 0, none⟩)) rfl (by kernel_rfl) (by kernel_rfl) (by kernel_rfl) (fun _ _ _ h => h) (Or.inl ⟨by rfl, (by intro w hSw; go_simp)⟩) (by assumption) ?_
        go_simp
        refine wpAnyH_ready (rs := [12]) (by kernel_rfl) (by simp) ?_
        refine AllReadyH.cons (o := _) rfl (fun K hK => ?_) AllReadyH.nil
        refine stepW_store rfl 157 _ _ rfl p 0 rfl .u32 v2 8 rfl (unhide hvl) (by have := hHE.wds.2; rwa [hHE.lv] at this) Tryz.info157 ?_
        have hHG := hHE.worded (unhide hvl)
        refine hK.out _ _ hHG.opn (fun hHeldx => ?_)
        clear hK K
        refine wpAnyH_done (by kernel_rfl) ?_ _
        have hf := unhide HF
        have hFE : Fr (fun k => k = p) wd (wE.setCells p 0 (v2.map (Value.int .u32))) := Fr.setCells (S := fun k => k = p) (a := wd) p (.inr rfl) _ _ ((Fr.of_below (S := fun k => k = p) (w := wd) (w' := wE) ⟨hbE.os, hbE.tape, hbE.output, hbE.size, hbE.block⟩))
        have HWS : Hid (WS w p (all ++ dn ++ rs.take k) tl dg (cutV cb co rs.length cap k) (rs.drop k) (wE.setCells p 0 (v2.map (Value.int .u32)))) :=
          ⟨⟨_, _, _, hHG, hf.2.1⟩, hf.2.2.2.1.keep hFE hf.2.2.2.2.2.1, hf.2.2.2.2.2.1, ⟨fun j v hv => (World.cell?_of_block (w := wd) (hFE.block 1 hf.2.2.2.2.1.2 (by have := unhide Hp0; omega))).trans (hf.2.2.2.2.1.1 j v hv), Nat.lt_of_lt_of_le hf.2.2.2.2.1.2 hFE.size⟩, hf.2.2.1.trans hFE, hplt⟩
        clear hHG hHE hbE hHd hKd hFE hf HF hHeld hHeldx hSd hfz hplt
        generalize wE.setCells p 0 (v2.map (Value.int .u32)) = wG at *
        go_simp
        go_wp2
        go_roundg (rs.length - k)
        case measure => have := unhide hk; omega
        case rel =>
          refine ⟨dn ++ rs.take k, rs.drop k, ?_, ?_, ?_⟩
          · rw [Hid, List.append_assoc, List.take_append_drop]; exact unhide hbs
          · rw [Hid, List.length_drop]
          · exact by rw [← List.append_assoc]; exact unhide HWS
      · have hnz : ¬ ((n + k) % 64 = 0 ∧ rs.take k ≠ []) := fun h => hz h.1
        rw [if_neg hnz] at hFD2
        have hz2 : (((n + k) % 64 : Nat) : Int) ≠ 0 := by omega
        generalize (((n + k) % 64 : Nat) : Int) = zz at *
        have HWS : Hid (WS w p (all ++ dn ++ rs.take k) tl dg (cutV cb co rs.length cap k) (rs.drop k) wd) := ⟨⟨_, _, _, hHs3, hFD2⟩, hRd4, hap, hKT3, hFr3, hplt⟩
        clear hHs3 hFD2 hFr3 hRd4 hKT3 hap hce hz hplt HA3 hnz
        clear hheld hS1 hf1 e1 e2 e3 HM2 hcut hbn hl64 hk64 hnr Htk HHs HRS
        go_wp2
        go_roundg (rs.length - k)
        case measure => have := unhide hk; omega
        case rel =>
          refine ⟨dn ++ rs.take k, rs.drop k, ?_, ?_, ?_⟩
          · rw [Hid, List.append_assoc, List.take_append_drop]; exact unhide hbs
          · rw [Hid, List.length_drop]
          · exact by rw [← List.append_assoc]; exact unhide HWS
    · have hr0 : rs = [] := List.eq_nil_of_length_eq_zero (by omega)
      have hll : rs.length = 0 := by omega
      have hb0 : dn = bs := by rw [← unhide hbs, hr0, List.append_nil]
      obtain ⟨v, op, n, hHs, hFD⟩ := (unhide hW).hs
      rw [hb0] at hFD
      have HFin := hide (And.intro hHs (And.intro hFD (unhide hW).fr))
      clear hHs hFD hW
      rw [hll]
      go_wp2
      go_end0
      exact ⟨rfl, v, op, n, (unhide HFin).1, (unhide HFin).2.1, (unhide HFin).2.2⟩
end Go.Proofs.YtlogmdldjmkkjaaGreatDoor.dg
