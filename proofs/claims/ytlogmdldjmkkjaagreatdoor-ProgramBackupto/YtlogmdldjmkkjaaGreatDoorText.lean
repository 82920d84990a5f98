/-
  Text and Raw of a writer.
-/
import Derived.Test.YtlogmdldjmkkjaaGreatDoorDone
namespace Go.Proofs.YtlogmdldjmkkjaaGreatDoor
open Go.RowKit

/-- The number that stands for one with a sign. -/
def foldI (n : Int) : Int := if 0 ≤ n then 2 * n else -2 * n - 1

theorem nat_xor_ones (a : Nat) (h : a < 2 ^ 64) : a ^^^ (2 ^ 64 - 1) = 2 ^ 64 - 1 - a := by
  have e := congrArg BitVec.toNat (BitVec.xor_allOnes (x := BitVec.ofNat 64 a))
  rw [BitVec.toNat_xor, BitVec.toNat_not, BitVec.toNat_allOnes, BitVec.toNat_ofNat, Nat.mod_eq_of_lt h] at e
  exact e
theorem xor_zero64 (a : Int) (h0 : 0 ≤ a) (h1 : a < 18446744073709551616) : bits .xor .u64 a 0 = a := by
  rw [u64_xor a 0 h0 h1 (by omega) (by omega)]
  simp only [Int.toNat_zero, Nat.xor_zero]; omega
theorem xor_ones64 (a : Int) (h0 : 0 ≤ a) (h1 : a < 18446744073709551616) : bits .xor .u64 a 18446744073709551615 = 18446744073709551615 - a := by
  rw [u64_xor a 18446744073709551615 h0 h1 (by omega) (by omega)]
  have e := nat_xor_ones a.toNat (by omega)
  rw [show (18446744073709551615 : Int).toNat = 2 ^ 64 - 1 from rfl, e]
  omega
theorem fold_pos (n : Int) (hn : 0 ≤ n) (h1 : n ≤ 9223372036854775807) : bits BinOp.xor IntKind.u64 (n * 2) (n / 9223372036854775808) = foldI n := by
  rw [show n / 9223372036854775808 = 0 from by omega, xor_zero64 _ (by omega) (by omega), foldI, if_pos hn]; omega
theorem fold_neg (n : Int) (hn : n < 0) (h0 : -9223372036854775808 ≤ n) : bits BinOp.xor IntKind.u64 (IntKind.u64.wrap (IntKind.u64.wrap n * 2)) (IntKind.u64.wrap (n / 9223372036854775808)) = foldI n := by
  simp only [IntKind.wrap_u64]
  rw [show n / 9223372036854775808 % 18446744073709551616 = 18446744073709551615 from by omega, xor_ones64 _ (by omega) (by omega), foldI, if_neg (by omega)]; omega
theorem foldI_bd (n : Int) (h0 : -9223372036854775808 ≤ n) (h1 : n ≤ 9223372036854775807) : 0 ≤ foldI n ∧ foldI n < 18446744073709551616 := by
  unfold foldI; split <;> omega

set_option maxRecDepth 100000 in
set_option maxHeartbeats 400000 in
theorem fold_any (n : Int) (w : World) (h0 : -9223372036854775808 ≤ n) (h1 : n ≤ 9223372036854775807) :
    Calls Tryz.prog 197 #[.int .i64 n] w fun e w' => e = .returned (.int .u64 (foldI n)) ∧ w' = w := by
  by_cases hn : 0 ≤ n
  · have e := hide (fold_pos n hn h1)
    go_enter Tryz.func197, Tryz.ntmps197
    go_wp2
    go_ret
    exact ⟨ret_int (unhide e), rfl⟩
  · have e := hide (fold_neg n (by omega) h0)
    go_enter Tryz.func197, Tryz.ntmps197
    go_wp2
    go_ret
    exact ⟨ret_int (unhide e), rfl⟩

set_option maxRecDepth 100000 in
set_option maxHeartbeats 400000 in
theorem int_any (p : Nat) (v : Value) (bs : List Int) (n : Int) (w : World) (h : Wtr w p v bs) (hb : bs.length + 10 ≤ 140737488355328) (h0 : -9223372036854775808 ≤ n) (h1 : n ≤ 9223372036854775807) :
    Calls Tryz.prog 161 #[.pointer (some ⟨p, 0, none⟩), .int .i64 n] w fun e w' => e = .returned (.tuple #[]) ∧ ∃ v', Wtr w' p v' (bs ++ Wm.uform 9 (foldI n).toNat) ∧ WStep p w v w' v' := by
  have hbd := foldI_bd n h0 h1
  have hF := fold_any n w h0 h1
  obtain ⟨y, hy⟩ : ∃ y : Nat, foldI n = y := ⟨(foldI n).toNat, by omega⟩
  rw [hy] at hbd hF ⊢
  have HF := hide hF
  have HU := hide (uint_any p v bs y w h hb (by omega))
  rw [Int.toNat_natCast]
  clear hy hbd h hF h0 h1
  go_enter Tryz.func161, Tryz.ntmps161
  go_wp2_with fail
  refine (unhide HF).mono ?_
  rintro e w' ⟨rfl, rfl⟩
  go_wp2_with fail
  refine (unhide HU).mono ?_
  rintro e w' ⟨rfl, hh⟩
  go_wp2
  go_end0
  exact ⟨rfl, hh⟩


/-- A string's bytes as numbers. -/
def strI (s : ByteArray) : List Int := s.data.toList.map fun b => (b.toNat : Int)
theorem strI_cells (s : ByteArray) : (strI s).map By = Lib.strCells s := by simp [strI, Lib.strCells, By]
theorem strI_length (s : ByteArray) : (strI s).length = s.size := by rw [strI, List.length_map, Array.length_toList]; rfl

/-- append of a string's bytes onto an owned row, and where the new row lies. -/
theorem run_append_string_at {P : Program} (w : World) (t u ty : TypeId) (i : TypeInfo) (ht : P.underlying t = some (.slice 5)) (hu : P.underlying u = some .string) (hi : P.info? 5 = some i) (hz : i.zero = some (.int .u8 0))
    (hsize : i.size = 1) (hby : i.bytes = 1) (v : Value) (n : Nat) (xs : List Value) (hown : w.ownsRow 0 5 1 v n xs) (s : ByteArray)
    (hbytes : n + s.size ≤ 140737488355328) (hn : 0 < n) :
    ∃ g cap w', (Builtin.append_ #[t, u] ty #[v, .string s]).run P w = .ok (.slice (some ⟨g, 0, none⟩) (n + s.size) cap) w' ∧ w'.ownsRow 0 5 1 (.slice (some ⟨g, 0, none⟩) (n + s.size) cap) (n + s.size) (xs ++ Lib.strCells s) ∧ w.grownBy w' v.ownBlock ∧
      (v.ownBlock = some g ∨ g = w.heap.size) := by
  have h63 : n + s.size ≤ maxLen := by unfold maxLen; omega
  obtain ⟨v', w', hr, h2, h3, h4⟩ := Lib.run_append_own_string (P := P) w 0 t u ty 5 i ht hu hi hz hsize hby v n xs hown s h63 hbytes (Nat.zero_le _)
  obtain ⟨g0, cap0, rfl, _, _⟩ := h2.form (by omega)
  refine ⟨g0, cap0, w', hr, h2, h3, ?_⟩
  rcases hown.2 with ⟨rfl, h0⟩ | ⟨g, cap, cur, rfl, _, hg, hnc, hcm, hcs, htake⟩
  · omega
  · by_cases hroom : n + s.size ≤ cap
    · have e := Lib.run_append_room_string (P := P) w t u ty 5 i ht hu hi hsize g n cap cur hg s hroom (by rw [hcs]; omega)
      rw [hr] at e
      injection e with e1 e2
      exact .inl (by simp at e1; rw [e1.1]; rfl)
    · have e := Lib.run_append_grow_string (P := P) w t u ty 5 i _ ht hu hi hz ⟨g, 0, none⟩ n cap xs (by rw [hsize]; exact hown.1) (@World.ownsRow.cells w 0 5 1 _ n xs hown g rfl) s (by omega) (by omega) (growslice_fits (by omega) (by rw [hby]; omega))
      rw [hr] at e
      injection e with e1 e2
      exact .inr (by simp at e1; exact e1.1)

theorem wpList_append_string_at {P : Program} (w : World) {ops : Array Oper} {rest : List Oper} {o : Oper} {a : Act} {Q : Exit → Act → World → Prop} (hgd : o.guard = none) (sl x : Operand) (t u : TypeId)
    (ho : o.op = .call { callee := .builtin .append, args := #[sl, x], argTypes := #[t, u] })
    (i : TypeInfo) (ht : P.underlying t = some (.slice 5)) (hu : P.underlying u = some .string) (hi : P.info? 5 = some i) (hz : i.zero = some (.int .u8 0))
    (hsize : i.size = 1) (hby : i.bytes = 1) (v : Value) (n : Nat) (xs : List Value) (hs : a.eval sl = v) (hown : w.ownsRow 0 5 1 v n xs) (s : ByteArray) (hx : a.eval x = .string s)
    (hbytes : n + s.size ≤ 140737488355328) (hn : 0 < n)
    (h : ∀ g cap w', w'.ownsRow 0 5 1 (.slice (some ⟨g, 0, none⟩) (n + s.size) cap) (n + s.size) (xs ++ Lib.strCells s) → w.grownBy w' v.ownBlock → (v.ownBlock = some g ∨ g = w.heap.size) → wpList P ops Q rest (a.put o.dst (.slice (some ⟨g, 0, none⟩) (n + s.size) cap)) w') :
    wpList P ops Q (o :: rest) a w := by
  refine wpList_plain hgd fun K hK => ?_
  obtain ⟨g, cap, w', hr, h2, h3, h4⟩ := run_append_string_at (P := P) w t u o.type i ht hu hi hz hsize hby v n xs hown s hbytes hn
  unfold Oper.wp execOp
  simp only [ho, resolve, invoke, builtin, Sem.run_bind, Sem.run_pure, Result.andThen_ok, List.map_toArray, List.map_cons, List.map_nil, hs, hx, hr]
  exact hK _ _ (h g cap w' h2 h3 h4)

set_option maxRecDepth 100000 in
set_option maxHeartbeats 400000 in
theorem text_any (p : Nat) (v : Value) (bs : List Int) (s : ByteArray) (w : World) (h : Wtr w p v bs) (hb : bs.length + 10 + s.size ≤ 140737488355328) :
    Calls Tryz.prog 76 #[.pointer (some ⟨p, 0, none⟩), .string s] w fun e w' => e = .returned (.tuple #[]) ∧ ∃ v', Wtr w' p v' (bs ++ (Wm.uform 9 s.size ++ strI s)) ∧ WStep p w v w' v' := by
  obtain ⟨i0, hi0, hz0, hz1, hz2⟩ := info_parts Tryz.info5
  have hU := hide (uint_any p v bs s.size w h (by omega) (by omega))
  clear h
  have hss : (s.size : Int) ≤ 140737488355328 := by omega
  go_enter Tryz.func76, Tryz.ntmps76
  go_wp2_with fail
  refine (unhide hU).mono ?_
  rintro e w' ⟨rfl, v1, hW1, hT1⟩
  have hl := Wm.ulen_bd 9 s.size
  have hn1 : (bs ++ Wm.uform 9 s.size).length + s.size ≤ 140737488355328 ∧ 0 < (bs ++ Wm.uform 9 s.size).length := by
    rw [List.length_append, Wm.uform_length]; omega
  obtain ⟨n, hn⟩ : ∃ n, Hid ((bs ++ Wm.uform 9 s.size).length = n) := ⟨_, rfl⟩
  rw [unhide hn] at hn1
  have hown := hW1.own
  rw [unhide hn] at hown
  have HO := hide hown
  have HW := hide hW1
  have HT := hide hT1
  have hc := hW1.cell
  have hf := hW1.frz
  have hp := hW1.lt
  have hap := hide hW1.apart
  clear hown hW1 hT1 hl hU
  obtain ⟨hn2, hn3⟩ := hn1
  go_wp2_with (at_builtin; refine wpList_append_string_at _ rfl (.tmp 13) (.tmp 14) 27 9 rfl i0 Tryz.underlying27 Tryz.underlying9 hi0 hz0 hz1 hz2 v1 n _ rfl (unhide HO) s rfl hn2 hn3 ?_)
  intro g cap w2 ho hg hat
  have k0 : w2.cell? ⟨p, 0, none⟩ = some v1 := by rw [hg.cell_far _ hp (Ne.symm (unhide hap))]; exact hc
  have e0 : w2.frozen? ⟨p, 0, none⟩ = false := by rw [hg.frozen_far _ hp (Ne.symm (unhide hap))]; exact hf
  have HH : Hid _ := (unhide HW).appended (g := g) (cap := cap) (H := w'.heap.size) (m := s.size) (more := strI s) (Fr.refl _ _) (by rw [unhide hn, strI_cells, List.map_append, List.append_assoc]; exact ho) (strI_length s) hg hat (Nat.le_refl _)
  rw [unhide hn, List.append_assoc] at HH
  clear ho hg hat
  go_wp2
  go_end0
  exact ⟨rfl, _, (unhide HH).1, (unhide HT).trans (unhide HH).2⟩

/-- Behind an append that may add nothing. -/
theorem Wtr.appended_at {w w2 : World} {p : Nat} {v v' : Value} {bs : List Int} {more : List Int} (h : Wtr w p v bs)
    (hown : w2.ownsRow 0 5 1 v' (bs.length + more.length) (bs.map By ++ more.map By))
    (hgrow : w.grownBy w2 v.ownBlock) (hat : v'.ownBlock = v.ownBlock ∨ v'.ownBlock = some w.heap.size) :
    Wtr (w2.setCell ⟨p, 0, none⟩ v') p v' (bs ++ more) ∧ WStep p w v (w2.setCell ⟨p, 0, none⟩ v') v' := by
  have hp := h.lt
  have hne : v'.ownBlock ≠ some p := by
    intro e
    rcases hat with r | r
    · exact h.apart (r ▸ e)
    · rw [r] at e; simp at e; omega
  have c1 : w2.cell? ⟨p, 0, none⟩ = some v := by
    rw [hgrow.cell_far _ hp (Ne.symm h.apart)]; exact h.cell
  have f1 : w2.frozen? ⟨p, 0, none⟩ = false := by
    rw [hgrow.frozen_far _ hp (Ne.symm h.apart)]; exact h.frz
  have f0 : Fr (Foot p v) w w2 := (Fr.refl _ w).grown hgrow (fun k hk => .inr (.inr hk))
  refine ⟨⟨World.cell?_setCell_same _ _ _ c1, by rw [World.frozen?_setCell]; exact f1, ?_, hne⟩, ⟨f0.setCell _ (.inr (.inl rfl)) _, ?_⟩⟩
  · obtain ⟨h1, h2⟩ := hown
    rw [List.length_append, List.map_append]
    refine ⟨h1, ?_⟩
    rcases h2 with h2 | ⟨g', cap', cur, hv, hg, hh, r⟩
    · exact Or.inl h2
    · refine Or.inr ⟨g', cap', cur, hv, hg, ?_, r⟩
      rw [Below.heap_setCell _ _ _ _ (by intro e; exact hne (by rw [hv, e]; rfl))]; exact hh
  · rcases hat with e | e
    · exact .inl e
    · exact .inr fun k hk => by rw [e] at hk; simp at hk; omega

theorem own_shape {w : World} {base : Nat} {v : Value} {n : Nat} {xs : List Value} (h : w.ownsRow base 5 1 v n xs) : ∃ a len cap, v = .slice a len cap := by
  rcases h.2 with ⟨rfl, _⟩ | ⟨g, cap, cur, rfl, _⟩
  · exact ⟨_, _, _, rfl⟩
  · exact ⟨_, _, _, rfl⟩

set_option maxRecDepth 100000 in
set_option maxHeartbeats 400000 in
theorem raw_any (p : Nat) (v : Value) (bs : List Int) (a : Addr) (cap : Nat) (ys : List Int) (w : World) (h : Wtr w p v bs) (hb : bs.length + ys.length ≤ 140737488355328)
    (hy : ∀ j u, (ys.map By)[j]? = some u → w.cell? (a.add j) = some u) :
    Calls Tryz.prog 34 #[.pointer (some ⟨p, 0, none⟩), .slice (some a) ys.length cap] w fun e w' => e = .returned (.tuple #[]) ∧ ∃ v', Wtr w' p v' (bs ++ ys) ∧ WStep p w v w' v' := by
  obtain ⟨i0, hi0, hz0, hz1, hz2⟩ := info_parts Tryz.info5
  have hc := h.cell
  have hf := h.frz
  have hp := h.lt
  obtain ⟨m, hm⟩ : ∃ m, Hid (ys.length = m) := ⟨_, rfl⟩
  obtain ⟨n, hn⟩ : ∃ n, Hid (bs.length = n) := ⟨_, rfl⟩
  rw [unhide hm] at hb ⊢
  rw [unhide hn] at hb
  have hown := h.own
  rw [unhide hn] at hown
  have HO := hide hown
  have HY := hide hy
  have HW := hide h
  have hap := hide h.apart
  clear hown hy h
  have hl : Hid ((ys.map By).length = m * 1) := by rw [Hid, List.length_map, unhide hm]; omega
  have h1 : Hid (∀ u ∈ ys.map By, u.oneCell' = true) := by simp [Hid, By, Value.oneCell']
  go_enter Tryz.func34, Tryz.ntmps34
  go_wp2_with (at_builtin; refine wpList_append_own_at _ rfl (.tmp 8) (.tmp 9) 27 rfl 0 5 i0 (.int .u8 0) 1 1 Tryz.underlying27 hi0 hz0 hz1 hz2 rfl (by omega) v n _ rfl (unhide HO) a m cap _ rfl (unhide hl) (unhide HY) (unhide h1) (by unfold maxLen; omega) (by omega) (by simp) ?_)
  intro v' w2 ho hg _ hat
  obtain ⟨a', l', c', rfl⟩ := own_shape ho
  have k0 : w2.cell? ⟨p, 0, none⟩ = some v := by rw [hg.cell_far _ hp (Ne.symm (unhide hap))]; exact hc
  have e0 : w2.frozen? ⟨p, 0, none⟩ = false := by rw [hg.frozen_far _ hp (Ne.symm (unhide hap))]; exact hf
  have HH : Hid _ := (unhide HW).appended_at (more := ys) (by rw [unhide hn, unhide hm]; exact ho) hg hat
  clear ho hg hat
  go_wp2
  go_end0
  exact ⟨rfl, _, (unhide HH).1, (unhide HH).2⟩
end Go.Proofs.YtlogmdldjmkkjaaGreatDoor
