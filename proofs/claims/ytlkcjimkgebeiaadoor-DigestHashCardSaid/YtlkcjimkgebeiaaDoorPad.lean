/-
  The tail.
-/
import Derived.Test.YtlkcjimkgebeiaaDoorEnds
namespace Go.Proofs.YtlkcjimkgebeiaaDoor
open Go.RowKit

theorem Tryd.info52 : (Tryd.prog.info? 52).map (·.size) = some 128 := by kernel_rfl
def z128 : List Int := List.replicate 128 0
theorem z128_len : z128.length = 128 := by simp [z128]
theorem Tryd.zero52 : (Tryd.prog.info? 52).map (fun i => (i.zero, i.size)) = some (some (.agg (Ar .u8 z128)), 128) := by kernel_rfl

/-- The number of bits, the last i bytes of it. -/
def lenB (n : Nat) : Nat → List Int
  | 0 => []
  | i + 1 => ((n * 8 / 2 ^ (8 * i) % 256 : Nat) : Int) :: lenB n i
theorem lenB_len (n : Nat) : ∀ i, (lenB n i).length = i
  | 0 => rfl
  | i + 1 => by rw [lenB, List.length_cons, lenB_len n i]
def bas (h : Nat) : Nat := if h < 56 then 64 else 0
/-- The tail ahead of its last bytes. -/
def pad0 (r : List Int) : List Int := (z128.take (bas r.length) ++ r ++ z128.drop (bas r.length + r.length)).set (bas r.length + r.length) 128
theorem pad0_len (r : List Int) (h : r.length < 64) : (pad0 r).length = 128 := by
  unfold pad0
  have : bas r.length ≤ 64 := by unfold bas; split <;> omega
  simp only [List.length_set, List.length_append, List.length_take, List.length_drop, z128_len]
  omega
def padT (r : List Int) (n : Nat) : List Int := (pad0 r).take 120 ++ lenB n 8
theorem padT_len (r : List Int) (n : Nat) (h : r.length < 64) : (padT r n).length = 128 := by
  unfold padT; rw [List.length_append, List.length_take, pad0_len r h, lenB_len]; omega

theorem pad_step (T : List Int) (n i : Nat) (hT : T.length = 128) (hi : i < 8) : (T.take (128 - i) ++ lenB n i).set (127 - i) ((n * 8 / 2 ^ (8 * i) % 256 : Nat) : Int) = T.take (128 - (i + 1)) ++ lenB n (i + 1) := by
  rw [show 128 - i = (127 - i) + 1 by omega, take_getD0 T (127 - i) (by omega), List.append_assoc, List.set_append_right _ _ (by rw [List.length_take]; omega), List.length_take, show 127 - i - min (127 - i) T.length = 0 by omega, show 128 - (i + 1) = 127 - i by omega]
  rfl
theorem Seg.splice {w : World} {b o : Nat} {k : IntKind} {xs : List Int} (h : Seg w b o k xs) (i : Nat) (ys : List Int) (hi : i + ys.length ≤ xs.length) :
    Seg (w.setCells b (o + i) (ys.map (Value.int k))) b o k (xs.take i ++ ys ++ xs.drop (i + ys.length)) := by
  have hl : (xs.take i ++ ys ++ xs.drop (i + ys.length)).length = xs.length := by simp only [List.length_append, List.length_take, List.length_drop]; omega
  refine ⟨fun j v hv => ?_, fun j hj => ?_⟩
  · by_cases h1 : j < i
    · rw [World.cell?_setCells_out b _ _ w ⟨b, o + j, none⟩ (fun _ _ => .inl (by simp; omega))]
      refine h.1 j v ?_
      rw [List.getElem?_map, List.append_assoc, List.getElem?_append_left (by rw [List.length_take]; omega), List.getElem?_take, if_pos h1, ← List.getElem?_map] at hv
      exact hv
    · by_cases h2 : j < i + ys.length
      · obtain ⟨d, rfl⟩ : ∃ d, j = i + d := ⟨j - i, by omega⟩
        have hd : d < (ys.map (Value.int k)).length := by rw [List.length_map]; omega
        have := World.cell?_setCells_in b (ys.map (Value.int k)) (o + i) w (fun q hq => by
          rw [List.length_map] at hq
          rw [Nat.add_assoc]; exact (h.2 (i + q) (by omega)).1) d hd
        rw [← Nat.add_assoc, this]
        rw [List.getElem?_map, List.append_assoc, List.getElem?_append_right (by rw [List.length_take]; omega), List.length_take, show i + d - min i xs.length = d by omega, List.getElem?_append_left (by rw [List.length_map] at hd; exact hd), ← List.getElem?_map, List.getElem?_eq_getElem hd] at hv
        exact hv
      · rw [World.cell?_setCells_out b _ _ w ⟨b, o + j, none⟩ (fun _ _ => .inr (by simp; omega))]
        refine h.1 j v ?_
        rw [List.getElem?_map, List.getElem?_append_right (by rw [List.length_append, List.length_take]; omega), List.length_append, List.length_take, List.getElem?_drop, show i + ys.length + (j - (min i xs.length + ys.length)) = j by omega, ← List.getElem?_map] at hv
        exact hv
  · rw [hl] at hj
    exact World.there_setCells h.2 _ _ _ j hj
/-- copy into cells that are there, as one step of a region that draws. -/
theorem step_copy_ar {ops : Array Oper} {op : Oper} {a : Act} {w : World} {K : Act → World → Prop} {Q : Exit → Act → World → Prop} {E : Prop} (hgd : op.guard = none) (d s : Operand)
    (ho : op.op = .call { callee := .builtin .copy, args := #[d, s], argTypes := #[22, 22] }) (b o dLen dCap : Nat) (hd : a.eval d = .slice (some ⟨b, o, none⟩) dLen dCap) (sv : Value) (bs : List Int) (hs : a.eval s = sv) (hR : Rd w sv bs)
    (ht : w.there b o (min bs.length dLen)) (h : K (a.put op.dst (goInt (min bs.length dLen : Nat))) (w.setCells b o ((bs.take dLen).map (Value.int .u8)))) : if Region.wanted op (yielded ops a.tmps) = true then Oper.wp Tryd.prog op a w K Q else E := by
  rw [if_pos (by simp [Region.wanted, hgd])]
  have hl : ((bs.take dLen).map (Value.int .u8)).length = Nat.min bs.length dLen := by rw [List.length_map, List.length_take]; exact Nat.min_comm _ _
  have hsz : (Tryd.prog.info? 5).map (·.size) = some 1 := by kernel_rfl
  rcases hR with ⟨rfl, rfl⟩ | ⟨sb, so, cap, rfl, h1, h2, h3, h4⟩
  · have hrun := run_copy_none (P := Tryd.prog) w 22 22 op.type 5 (some ⟨b, o, none⟩) none dLen dCap 0 0 Tryd.underlying22 hsz (Nat.min_eq_left (Nat.zero_le _))
    have h' : K (a.put op.dst (goInt 0)) w := by simpa [World.setCells] using h
    unfold Oper.wp
    simp [execOp, ho, resolve, invoke, builtin, hd, hs, hrun, Result.andThen]
    exact h'
  · have hrun := run_copy_cells (P := Tryd.prog) w 22 22 op.type 5 b o dLen dCap ⟨sb, so, none⟩ bs.length cap ((bs.take dLen).map (Value.int .u8)) Tryd.underlying22 hsz hl
      (fun j v hv => by
        rw [addr_add]
        rw [List.getElem?_map, Option.map_eq_some_iff] at hv
        obtain ⟨n, hn, rfl⟩ := hv
        have hj : j < bs.length := by have := (List.getElem?_eq_some_iff.1 hn).1; rw [List.length_take] at this; omega
        have hjd : j < dLen := by have := (List.getElem?_eq_some_iff.1 hn).1; rw [List.length_take] at this; omega
        rw [List.getElem?_take, if_pos hjd] at hn
        rw [h4 j hj, List.getD, hn]; rfl)
      (fun j hj => (ht j (by rw [hl] at hj; exact hj)).1) (fun j hj => (ht j (by rw [hl] at hj; exact hj)).2)
      (fun v hv => by obtain ⟨_, _, rfl⟩ := List.mem_map.1 hv; rfl)
    rw [hl] at hrun
    unfold Oper.wp
    simp only [execOp, ho, resolve, invoke, builtin, hd, hs, hrun, Result.andThen, Sem.run_bind, Sem.run_pure, List.map_toArray, List.map_cons, List.map_nil]
    exact h
end Go.Proofs.YtlkcjimkgebeiaaDoor
