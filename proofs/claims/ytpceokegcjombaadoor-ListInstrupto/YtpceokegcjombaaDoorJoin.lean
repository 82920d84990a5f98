/-
  Two words of a line, with a blank between.
-/
import Derived.Shelf.Strings.Builder2
import Derived.Test.YtpceokegcjombaaDoorQWr
import Derived.Test.YtpceokegcjombaaDoorPRow
namespace Go.Proofs.YtpceokegcjombaaDoor
open Go.RowKit Go.Shelf
set_option linter.unusedVariables false
set_option linter.unusedSimpArgs false
def lays165_ren : Go.Shelf.Ren := ⟨fun | 165 => 36 | 240 => 40 | 241 => 41 | 276 => 46 | 277 => 47 | n => n, fun | 70 => 70 | 3 => 3 | 0 => 0 | 4 => 4 | 9 => 9 | 20 => 20 | 72 => 72 | 37 => 64 | 164 => 86 | 5 => 5 | n => n, fun | n => n⟩
theorem lays165 : Go.Proofs.Lays.n165 Tryd.prog lays165_ren := {
  mixed := by kernel_rfl
  f165 := Tryd.func36.trans (congrArg some (by kernel_rfl))
  f240 := Tryd.func40.trans (congrArg some (by kernel_rfl))
  f241 := Tryd.func41.trans (congrArg some (by kernel_rfl))
  f276 := Tryd.func46.trans (congrArg some (by kernel_rfl))
  f277 := Tryd.func47.trans (congrArg some (by kernel_rfl))
  t0 := Tryd.underlying0
  a0 := Tryd.isAgg0
  z0 := Tryd.sizeOf0
  v0 := Tryd.zeroValue0
  t3 := Tryd.underlying3
  a3 := Tryd.isAgg3
  z3 := Tryd.sizeOf3
  v3 := Tryd.zeroValue3
  t4 := Tryd.underlying4
  a4 := Tryd.isAgg4
  z4 := Tryd.sizeOf4
  v4 := Tryd.zeroValue4
  t9 := Tryd.underlying9
  a9 := Tryd.isAgg9
  z9 := Tryd.sizeOf9
  v9 := Tryd.zeroValue9
  t20 := Tryd.underlying20
  a20 := Tryd.isAgg20
  z20 := Tryd.sizeOf20
  v20 := Tryd.zeroValue20
  t37 := Tryd.underlying64
  a37 := Tryd.isAgg64
  z37 := Tryd.sizeOf64
  v37 := Tryd.zeroValue64
  t70 := Tryd.underlying70
  a70 := Tryd.isAgg70
  z70 := Tryd.sizeOf70
  v70 := Tryd.zeroValue70
  t72 := Tryd.underlying72
  a72 := Tryd.isAgg72
  z72 := Tryd.sizeOf72
  v72 := Tryd.zeroValue72
  t164 := Tryd.underlying86
  a164 := Tryd.isAgg86
  z164 := Tryd.sizeOf86
  v164 := Tryd.zeroValue86 }
theorem extra165 : Builder.Extra Tryd.prog lays165_ren := {
  sizeBuilder := by kernel_rfl
  liesBuilder := by kernel_rfl
  t5 := Tryd.underlying5
  a5 := Tryd.isAgg5
  z5 := Tryd.sizeOf5
  v5 := Tryd.zeroValue5
  infoByte := by kernel_rfl
  cellsByte := by kernel_rfl
  sizeByte := by kernel_rfl
  neB5 := by decide }

theorem size_list (s : ByteArray) : s.size = s.data.toList.length := by rw [Array.length_toList]; rfl
theorem grow_any (B b n : Nat) (w : World) (hB : B ≤ b) (hbk : w.heap[b]? = some (.cells #[.pointer none, .slice none 0 0] 72 (0, 0))) (hBw : B ≤ w.heap.size) (hn : n ≤ 281474976710656) :
    Calls Tryd.prog 36 #[.pointer (some ⟨b, 0, none⟩), .int .i64 n] w fun e w' => e = .returned (.tuple #[]) ∧ Bd B b [] w' ∧ Below B w w' :=
  (Any.Builder_Grow_fresh lays165 extra165 B b n w hB hbk hBw hn).mono fun e w' ⟨h1, h2, h3⟩ => ⟨h1, ⟨.inr h2, by have := h3.size; omega⟩, h3⟩
theorem Below.cellAt {B : Nat} {w w' : World} (h : Below B w w') {b o : Nat} (hb : b < B) : w'.cell? ⟨b, o, none⟩ = w.cell? ⟨b, o, none⟩ := by
  rw [World.cell?, World.cell?, h.block b hb]
set_option maxHeartbeats 1000000 in
set_option maxRecDepth 100000 in
theorem join2_any (b : Nat) (x y : ByteArray) (w : World) (c0 : w.cell? ⟨b, 0, none⟩ = some (.string x)) (c1 : w.cell? ⟨b, 1, none⟩ = some (.string y)) (hx : x.size ≤ 1099511627776) (hy : y.size ≤ 1099511627776) :
    Calls Tryd.prog 32 #[.slice (some ⟨b, 0, none⟩) 2 2, .string ⟨#[32]⟩] w fun e w' => e = .returned (.string ⟨(x.data.toList ++ [32] ++ y.data.toList).toArray⟩) ∧ Below w.heap.size w w' := by
  have lb : Hid (b < w.heap.size) := World.block_lt_of_cell? w _ c0
  have C0 := hide c0
  have C1 := hide c1
  obtain ⟨N1, hN1⟩ : ∃ N1 : Nat, Hid (N1 = 1 + x.size) := ⟨_, rfl⟩
  obtain ⟨N2, hN2⟩ : ∃ N2 : Nat, Hid (N2 = 1 + x.size + y.size) := ⟨_, rfl⟩
  obtain ⟨M1, hM1⟩ : ∃ M1 : Int, Hid (M1 = 9223372036854775807 - (N1 : Int)) := ⟨_, rfl⟩
  have a1 : IntKind.i64.wrap (1 + (x.size : Int)) = (N1 : Int) := by rw [IntKind.wrap_i64]; have := unhide hN1; omega
  have a2 : IntKind.i64.wrap ((N1 : Int) + (y.size : Int)) = (N2 : Int) := by rw [IntKind.wrap_i64]; have := unhide hN1; have := unhide hN2; omega
  have a3 : IntKind.i64.wrap (9223372036854775807 - (N1 : Int)) = M1 := by rw [IntKind.wrap_i64, unhide hM1]; have := unhide hN1; omega
  have a4 : ¬ M1 < (y.size : Int) := by have := unhide hM1; have := unhide hN1; omega
  have a5 : ¬ (9223372036854775806 : Int) < (x.size : Int) := by omega
  have hN2m : Hid (N2 ≤ 281474976710656) := by unfold Hid; have := unhide hN2; omega
  have hbd : Hid (x.size + 1 + y.size ≤ 140737488355328) := by unfold Hid; omega
  obtain ⟨W1, eW1⟩ : ∃ W1, W1 = w.alloc (.cells #[.pointer none, .slice none 0 0] 72) := ⟨_, rfl⟩
  have hW1 : Hid (W1.heap[w.heap.size]? = some (.cells #[.pointer none, .slice none 0 0] 72 (0, 0)) ∧ w.heap.size ≤ W1.heap.size ∧ Below w.heap.size w W1) := by
    unfold Hid; rw [eW1]
    refine ⟨?_, by simp, (Below.refl _ _).alloc (Nat.le_refl _) _⟩
    show (w.heap.push (Obj.cells #[.pointer none, .slice none 0 0] 72 (0, 0)))[w.heap.size]? = _
    rw [Array.getElem?_push, if_pos rfl]
  obtain ⟨L, hL⟩ : ∃ L : List UInt8, Hid (x.data.toList ++ [32] ++ y.data.toList = L) := ⟨x.data.toList ++ [32] ++ y.data.toList, hide rfl⟩
  rw [unhide hL]
  clear hx hy
  go_enter Tryd.func32, Tryd.ntmps32
  go_wp2_with fail
  go_loopg [5, 41] 2 (fun gg t5 t41 wi => ∃ (k : Nat), Hid (k + gg = 2) ∧ t41 = .int .i64 (k : Int) ∧ wi = w ∧ ((k = 0 ∧ t5 = .int .i64 1) ∨ (k = 1 ∧ t5 = .int .i64 (N1 : Int)) ∨ (k = 2 ∧ t5 = .int .i64 (N2 : Int))))
  case atStart => exact ⟨0, by unfold Hid; omega, rfl, rfl, .inl ⟨rfl, rfl⟩⟩
  case round =>
    obtain ⟨k, hi, rfl, hX, hk⟩ := hrel
    obtain rfl := hX.symm
    clear hX
    rcases hk with ⟨rfl, rfl⟩ | ⟨rfl, rfl⟩ | ⟨rfl, rfl⟩
    · go_wp2_with fail
      go_roundg 1
      case measure => have := unhide hi; omega
      case rel => exact ⟨1, by unfold Hid; omega, by go_num, rfl, .inr (.inl ⟨rfl, rfl⟩)⟩
    · go_wp2_with fail
      go_roundg 0
      case measure => have := unhide hi; omega
      case rel => exact ⟨2, by unfold Hid; omega, by go_num, rfl, .inr (.inr ⟨rfl, rfl⟩)⟩
    · clear c0 c1
      go_wp2_with fail
      rw [← eW1]
      clear eW1
      refine (grow_any w.heap.size w.heap.size N2 W1 (Nat.le_refl _) (unhide hW1).1 (unhide hW1).2.1 (unhide hN2m)).mono ?_
      rintro e W2 ⟨rfl, hb, hf⟩
      have B2 := hide hb
      have F2 : Hid (Below w.heap.size w W2) := (unhide hW1).2.2.trans hf
      clear hb hf
      have d0 : W2.cell? ⟨b, 0, none⟩ = some (.string x) := by rw [Below.cellAt (unhide F2) (unhide lb)]; exact unhide C0
      go_wp2_with fail
      refine (ws_any (unhide B2) x (by have := unhide hbd; simp; omega)).mono ?_
      rintro e W3 ⟨rfl, hb, hf⟩
      have B3 : Hid (Bd w.heap.size w.heap.size x.data.toList W3) := by simpa [Hid] using hb
      have F3 : Hid (Below w.heap.size w W3) := (unhide F2).trans hf
      clear hb hf d0
      go_wp2_with fail
      go_loopg [65] 1 (fun gg t65 wi => ∃ (k : Nat), Hid (k + gg = 1) ∧ t65 = .int .i64 (k : Int) ∧ ((k = 0 ∧ wi = W3) ∨ (k = 1 ∧ Hid (Bd w.heap.size w.heap.size L wi) ∧ Hid (Below w.heap.size w wi))))
      case atStart => exact ⟨0, by unfold Hid; omega, rfl, .inl ⟨rfl, rfl⟩⟩
      case round =>
        obtain ⟨k, hi, rfl, hk⟩ := hrel
        rcases hk with ⟨rfl, hX⟩ | ⟨rfl, B5, F5⟩
        · obtain rfl := hX.symm
          clear hX
          have d1 : W3.cell? ⟨b, 1, none⟩ = some (.string y) := by rw [Below.cellAt (unhide F3) (unhide lb)]; exact unhide C1
          go_wp2_with fail
          refine (ws_any (unhide B3) ⟨#[32]⟩ (by have := unhide hbd; have := size_list x; show _ + 1 ≤ _; omega)).mono ?_
          rintro e W4 ⟨rfl, hb, hf⟩
          have B4 : Hid (Bd w.heap.size w.heap.size (x.data.toList ++ [32]) W4) := hb
          have F4 : Hid (Below w.heap.size w W4) := (unhide F3).trans hf
          clear hb hf d1
          go_wp2_with fail
          refine (ws_any (unhide B4) y (by have := unhide hbd; have := size_list x; rw [List.length_append]; show _ + 1 + _ ≤ _; omega)).mono ?_
          rintro e W5 ⟨rfl, hb, hf⟩
          have B5 : Hid (Bd w.heap.size w.heap.size L W5) := by rw [← unhide hL]; exact hb
          have F5 : Hid (Below w.heap.size w W5) := (unhide F4).trans hf
          clear hb hf
          go_wp2_with fail
          go_roundg 0
          case measure => have := unhide hi; omega
          case rel => exact ⟨1, by unfold Hid; omega, by go_num, .inr ⟨rfl, B5, F5⟩⟩
        · go_wp2_with fail
          refine (str_any (unhide B5)).mono ?_
          rintro e W6 ⟨rfl, hf⟩
          have F6 : Hid (Below w.heap.size w W6) := (unhide F5).trans hf
          clear hf
          go_wp2_with fail
          go_ret
          exact ⟨rfl, unhide F6⟩
set_option maxHeartbeats 1000000 in
set_option maxRecDepth 100000 in
theorem line2_any (b : Nat) (x y : ByteArray) (w : World) (c0 : w.cell? ⟨b, 0, none⟩ = some (.string x)) (c1 : w.cell? ⟨b, 1, none⟩ = some (.string y)) (hx : x.size ≤ 1099511627776) (hy : y.size ≤ 1099511627776) :
    Calls Tryd.prog 18 #[.slice (some ⟨b, 0, none⟩) 2 2] w fun e w' => e = .returned (.string ⟨(x.data.toList ++ [32] ++ y.data.toList).toArray⟩) ∧ Below w.heap.size w w' := by
  have HC := hide (join2_any b x y w c0 c1 hx hy)
  generalize (x.data.toList ++ [32] ++ y.data.toList).toArray = L at HC ⊢
  clear c0 c1 hx hy
  go_enter Tryd.func18, Tryd.ntmps18
  go_wp2_with fail
  refine (unhide HC).mono ?_
  rintro e W2 ⟨rfl, hb⟩
  have HB := hide hb
  clear hb HC
  go_wp2_with fail
  go_ret
  exact ⟨rfl, unhide HB⟩
end Go.Proofs.YtpceokegcjombaaDoor
