/-
  Sum of a hash.
-/
import Derived.Test.YtlogmdldjmkkjaaGreatDoorHash
namespace Go.Proofs.YtlogmdldjmkkjaaGreatDoor.dg
open Go.RowKit

theorem Tryz.info164 : (Tryz.prog.info? 164).map (·.size) = some 160 := by kernel_rfl
theorem Tryz.cells49 : Tryz.prog.cellsOf 160 = 64 := by kernel_rfl
theorem Ar_extract (k : IntKind) (xs : List Int) (i n : Nat) : (Ar k xs).extract i (i + n) = Ar k ((xs.drop i).take n) := by
  apply Array.ext'
  simp [Ar, List.map_drop, List.map_take]
theorem two_eq (xs ys : List Int) (hx : xs.length = 128) (hy : ys.length = 128) : ((xs.drop (0 * 64)).take 64 == (ys.drop (0 * 64)).take 64 && (xs.drop (1 * 64)).take 64 == (ys.drop (1 * 64)).take 64) = (xs == ys) := by
  have ex : xs = xs.take 64 ++ (xs.drop 64).take 64 := by rw [List.take_of_length_le (l := xs.drop 64) (by rw [List.length_drop]; omega), List.take_append_drop]
  have ey : ys = ys.take 64 ++ (ys.drop 64).take 64 := by rw [List.take_of_length_le (l := ys.drop 64) (by rw [List.length_drop]; omega), List.take_append_drop]
  rw [Bool.eq_iff_iff, Bool.and_eq_true, beq_iff_eq, beq_iff_eq, beq_iff_eq]
  simp only [Nat.zero_mul, Nat.one_mul, List.drop_zero]
  constructor
  · rintro ⟨h0, h1⟩; rw [ex, ey, h0, h1]
  · rintro rfl; exact ⟨rfl, rfl⟩
theorem inner52 (D : Nat) (xs ys : List Int) (hx : xs.length = 64) (hy : ys.length = 64) (w : World) : (Op.equalIn (D + 2) 160 (.agg (Ar .u8 xs)) (.agg (Ar .u8 ys))).run Tryz.prog w = .ok (xs == ys) w := by
  obtain ⟨i0, hi0, _⟩ := info_parts Tryz.info5
  exact run_equal_ar (P := Tryz.prog) w D 160 5 64 .u8 .u8 i0 Tryz.underlying160 hi0 (by kernel_rfl) Tryz.underlying5 (Tryz.isAgg5 w) _ _ hx hy
theorem part52 (zs : List Int) (i : Nat) (w : World) : (part 160 (Ar .u8 zs) (i * 64)).run Tryz.prog w = .ok (.agg (Ar .u8 ((zs.drop (i * 64)).take 64))) w := by
  simp only [part, Sem.run_bind, Tryz.isAgg160, Tryz.sizeOf160, Result.andThen_ok, if_true, Sem.run_pure, Ar_extract]
theorem items52 (D : Nat) (xs ys : List Int) (hx : xs.length = 128) (hy : ys.length = 128) (w : World) : (Op.eqItems (D + 2) 160 64 (Ar .u8 xs) (Ar .u8 ys) [0, 1]).run Tryz.prog w = .ok (xs == ys) w := by
  have i0 := inner52 D ((xs.drop (0 * 64)).take 64) ((ys.drop (0 * 64)).take 64) (by rw [List.length_take, List.length_drop]; omega) (by rw [List.length_take, List.length_drop]; omega) w
  have i1 := inner52 D ((xs.drop (1 * 64)).take 64) ((ys.drop (1 * 64)).take 64) (by rw [List.length_take, List.length_drop]; omega) (by rw [List.length_take, List.length_drop]; omega) w
  have p0 : ∀ zs, (part 160 (Ar .u8 zs) (0 * 64)).run Tryz.prog w = .ok (.agg (Ar .u8 ((zs.drop (0 * 64)).take 64))) w := fun zs => part52 zs 0 w
  have p1 : ∀ zs, (part 160 (Ar .u8 zs) (1 * 64)).run Tryz.prog w = .ok (.agg (Ar .u8 ((zs.drop (1 * 64)).take 64))) w := fun zs => part52 zs 1 w
  rw [← two_eq xs ys hx hy]
  generalize ((xs.drop (0 * 64)).take 64 == (ys.drop (0 * 64)).take 64) = b0 at *
  generalize ((xs.drop (1 * 64)).take 64 == (ys.drop (1 * 64)).take 64) = b1 at *
  have e1 : (Op.eqItems (D + 2) 160 64 (Ar .u8 xs) (Ar .u8 ys) [1]).run Tryz.prog w = .ok b1 w := by
    unfold Op.eqItems
    rw [Sem.run_bind, p1, Result.andThen_ok, Sem.run_bind, p1, Result.andThen_ok, Sem.run_bind, i1, Result.andThen_ok]
    cases b1 <;> simp [Op.eqItems]
  unfold Op.eqItems
  rw [Sem.run_bind, p0, Result.andThen_ok, Sem.run_bind, p0, Result.andThen_ok, Sem.run_bind, i0, Result.andThen_ok]
  cases b0
  · simp
  · rw [if_neg (by simp), e1, Bool.true_and]
theorem eq52D (D : Nat) (xs ys : List Int) (hx : xs.length = 128) (hy : ys.length = 128) (w : World) : (Op.equalIn (D + 3) 162 (.agg (Ar .u8 xs)) (.agg (Ar .u8 ys))).run Tryz.prog w = .ok (xs == ys) w := by
  obtain ⟨i49, hi49⟩ : ∃ i, Tryz.prog.info? 160 = some i := by
    have h : (Tryz.prog.info? 160).map (·.size) = some 64 := Tryz.info160
    cases hq : Tryz.prog.info? 160 with
    | none => rw [hq] at h; cases h
    | some i => exact ⟨i, rfl⟩
  have := run_equalIn_array w (D + 2) (Ar .u8 xs) (Ar .u8 ys) Tryz.underlying162 hi49
  rw [Tryz.cells49, show List.range 2 = [0, 1] from rfl, items52 D xs ys hx hy w] at this
  exact this
theorem eq52 (xs ys : List Int) (hx : xs.length = 128) (hy : ys.length = 128) (w : World) : (Op.equalIn 10000 162 (.agg (Ar .u8 xs)) (.agg (Ar .u8 ys))).run Tryz.prog w = .ok (xs == ys) w := eq52D 9997 xs ys hx hy w

theorem fold_set (off : Nat) : ∀ (P : List Value) (k : Nat) (L : List Value), off + k + P.length ≤ L.length → (P.zipIdx k).foldl (fun l (c : Value × Nat) => l.set (off + c.2) c.1) L = L.take (off + k) ++ (P ++ L.drop (off + k + P.length))
  | [], k, L, _ => by simp
  | c :: P, k, L, h => by
    rw [List.zipIdx_cons, List.foldl_cons, fold_set off P (k + 1) _ (by rw [List.length_set]; simp at h; omega)]
    simp only [List.length_cons] at h ⊢
    have e1 : (L.set (off + k) c).take (off + (k + 1)) = L.take (off + k) ++ [c] := by
      rw [show off + (k + 1) = off + k + 1 by omega, List.take_add_one, List.take_set, List.set_eq_of_length_le (by rw [List.length_take]; omega)]
      simp [show off + k < L.length by omega]
    have e2 : (L.set (off + k) c).drop (off + (k + 1) + P.length) = L.drop (off + k + (P.length + 1)) := by
      rw [List.drop_set_of_lt (by omega)]; congr 1; omega
    rw [e1, e2]; simp

theorem fold_arr (off : Nat) : ∀ (l : List (Value × Nat)) (C : Array Value), (l.foldl (fun cs (c : Value × Nat) => cs.setIfInBounds (off + c.2) c.1) C).toList = l.foldl (fun L (c : Value × Nat) => L.set (off + c.2) c.1) C.toList
  | [], _ => rfl
  | c :: l, C => by rw [List.foldl_cons, List.foldl_cons, fold_arr off l, Array.toList_setIfInBounds]
theorem fill_seg (C : Array Value) (P : List Value) (off : Nat) (h : off + P.length ≤ C.size) :
    P.toArray.zipIdx.foldl (fun cs (c, j) => cs.setIfInBounds (off + j) c) C = (C.toList.take off ++ (P ++ C.toList.drop (off + P.length))).toArray := by
  apply Array.ext'
  have h1 := fold_arr off (P.zipIdx 0) C
  have h2 := fold_set off P 0 C.toList (by simpa using h)
  rw [Nat.add_zero] at h2
  rw [h2] at h1
  rw [← h1, ← Array.foldl_toList]
  simp
theorem zero54 : ∃ Z : Array Value, (∀ w, (zeroValue 164).run Tryz.prog w = .ok (.agg Z) w) ∧ Z.size = 160 :=
  ⟨_, (zero_of_info (P := Tryz.prog) (t := 164) (v := .agg (Ar .u8 (z128 ++ z32))) (n := 160) (by kernel_rfl)).1, by rw [Ar_size, List.length_append, z128_len]; rfl⟩
theorem fields54 : ∃ fs : Array Field, (∀ w, (underlying 164).run Tryz.prog w = .ok (.struct fs) w) ∧ ∀ w, (Array.mapM (fun (f : Field) => do let s ← sizeOf f.type; pure (f.offset, s)) fs).run Tryz.prog w = .ok #[(0, 128), (128, 32)] w :=
  ⟨_, Tryz.runUnderlying164, fun w => by kernel_rfl⟩
theorem build54 (T D : List Int) (hT : T.length = 128) (hD : D.length = 32) (w : World) : (Instr.build 164 #[(0, .agg (Ar .u8 T)), (1, .agg (Ar .u8 D))]).run Tryz.prog w = .ok (.agg (Ar .u8 (T ++ D))) w := by
  obtain ⟨Z, hZ, hZs⟩ := zero54
  obtain ⟨fs, hu, hm⟩ := fields54
  have f1 := fill_seg Z (T.map (Value.int .u8)) 0 (by rw [List.length_map, hT, hZs]; omega)
  have s1 : ((Z.toList.take 0 ++ (T.map (Value.int .u8) ++ Z.toList.drop (0 + (T.map (Value.int .u8)).length))).toArray).size = 160 := by
    simp only [List.size_toArray, List.length_append, List.length_take, List.length_drop, List.length_map, Array.length_toList, hT, hZs]; omega
  have f2 := fill_seg (Z.toList.take 0 ++ (T.map (Value.int .u8) ++ Z.toList.drop (0 + (T.map (Value.int .u8)).length))).toArray (D.map (Value.int .u8)) 128 (by rw [s1, List.length_map, hD]; omega)
  have e2 : ((Z.toList.take 0 ++ (T.map (Value.int .u8) ++ Z.toList.drop (0 + (T.map (Value.int .u8)).length))).toArray.toList.take 128 ++ (D.map (Value.int .u8) ++ (Z.toList.take 0 ++ (T.map (Value.int .u8) ++ Z.toList.drop (0 + (T.map (Value.int .u8)).length))).toArray.toList.drop (128 + (D.map (Value.int .u8)).length))).toArray = Ar .u8 (T ++ D) := by
    apply Array.ext'
    have hl : (T.map (Value.int .u8)).length = 128 := by rw [List.length_map, hT]
    show (List.take 128 ([] ++ (T.map (Value.int .u8) ++ Z.toList.drop (0 + (T.map (Value.int .u8)).length))) ++ (D.map (Value.int .u8) ++ List.drop (128 + (D.map (Value.int .u8)).length) ([] ++ (T.map (Value.int .u8) ++ Z.toList.drop (0 + (T.map (Value.int .u8)).length))))) = (T ++ D).map (Value.int .u8)
    rw [List.nil_append, List.take_append_of_le_length (by omega), List.take_of_length_le (by omega), List.drop_of_length_le (by simp only [List.length_append, List.length_drop, List.length_map, Array.length_toList, hT, hD, hZs]; omega), List.append_nil, List.map_append]
  rw [e2] at f2
  have c1 : (Value.agg (Ar .u8 T)).cells = (T.map (Value.int .u8)).toArray := rfl
  have c2 : (Value.agg (Ar .u8 D)).cells = (D.map (Value.int .u8)).toArray := rfl
  have z1 : ((T.map (Value.int .u8)).toArray).size = 128 := by rw [List.size_toArray, List.length_map, hT]
  have z2 : ((D.map (Value.int .u8)).toArray).size = 32 := by rw [List.size_toArray, List.length_map, hD]
  have hfill : Instr.fill (fun x => (#[(0, 128), (128, 32)] : Array (Nat × Nat))[x]?) Z [(0, .agg (Ar .u8 T)), (1, .agg (Ar .u8 D))] = some (Ar .u8 (T ++ D)) := by
    have e00 : (#[(0, 128), (128, 32)] : Array (Nat × Nat))[0]? = some (0, 128) := rfl
    have e01 : (#[(0, 128), (128, 32)] : Array (Nat × Nat))[1]? = some (128, 32) := rfl
    unfold Instr.fill
    simp only [c1, z1, hZs, e00]
    rw [if_neg (by simp), f1]
    unfold Instr.fill
    simp only [c2, z2, s1, e01]
    rw [if_neg (by simp), f2]
    rfl
  simp only [Instr.build, Sem.run_bind, hZ, Result.andThen_ok, hu w, show (Value.agg Z).cells = Z from rfl]
  rw [hm w, Result.andThen_ok, hfill]
  simp
end Go.Proofs.YtlogmdldjmkkjaaGreatDoor.dg
