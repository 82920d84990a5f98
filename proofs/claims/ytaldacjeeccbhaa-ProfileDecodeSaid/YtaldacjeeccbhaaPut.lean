/-
  put, of a byte and of a word.
-/
import Derived.Test.YtaldacjeeccbhaaPB
import Derived.WalkKit
import Derived.Below
import Derived.Deep.AppendLies
import Derived.Test.YtaldacjeeccbhaaBits
import Derived.Test.YtaldacjeeccbhaaMath
import Derived.Laws.BitsAllLaws
import Derived.WalkSpells
import Derived.WalkLawsBesides
import Derived.StillTactics
import Derived.OwnWalk
import Derived.Laws.Pointers
import Derived.Deep.RegionHeld3
import Derived.Deep.RegionLaw
import Derived.Laws.NewBlocks
import Derived.Deep.LoopGhost
import Derived.KernelRfl
namespace Go.Proofs.Ytaldacjeeccbhaa
open Go.RowKit

/-- A byte as a value. -/
def By (z : Int) : Value := .int .u8 z

/-- At block p lies a writer (a struct of one field, the slice v), which holds the bytes bs, in a row of its own. -/
structure Wtr (w : World) (p : Nat) (v : Value) (bs : List Int) : Prop where
  cell : w.cell? ⟨p, 0, none⟩ = some v
  frz : w.frozen? ⟨p, 0, none⟩ = false
  own : w.ownsRow 0 5 1 v bs.length (bs.map By)
  apart : v.ownBlock ≠ some p

/-- What is a writer's own: its struct, and its row. -/
def Foot (p : Nat) (v : Value) : Nat → Prop := fun k => k = p ∨ v.ownBlock = some k

/-- A call of the writer at p: it turns its own alone, and its row stays or is a new one. -/
structure WStep (p : Nat) (w : World) (v : Value) (w' : World) (v' : Value) : Prop where
  fr : Fr (Foot p v) w w'
  row : v'.ownBlock = v.ownBlock ∨ ∀ k, v'.ownBlock = some k → w.heap.size ≤ k

theorem WStep.refl (p : Nat) (w : World) (v : Value) : WStep p w v w v := ⟨Fr.refl _ _, .inl rfl⟩
theorem WStep.trans {p : Nat} {w w1 w2 : World} {v v1 v2 : Value} (h : WStep p w v w1 v1) (k : WStep p w1 v1 w2 v2) : WStep p w v w2 v2 := by
  have hs := h.fr.size
  refine ⟨⟨k.fr.os.trans h.fr.os, k.fr.tape.trans h.fr.tape, k.fr.output.trans h.fr.output, Nat.le_trans hs k.fr.size, fun i hi hn => ?_⟩, ?_⟩
  · rw [k.fr.block i (by omega) ?_]
    · exact h.fr.block i hi hn
    · rintro (e | e)
      · exact hn (.inl e)
      · rcases h.row with r | r
        · exact hn (.inr (r ▸ e))
        · have := r i e; omega
  · rcases k.row with r | r
    · rcases h.row with q | q
      · exact .inl (r.trans q)
      · exact .inr fun k hk => q k (r ▸ hk)
    · exact .inr fun k hk => by have := r k hk; omega

theorem Wtr.lt {w : World} {p : Nat} {v : Value} {bs : List Int} (h : Wtr w p v bs) : p < w.heap.size := World.block_lt_of_cell? _ _ h.cell
theorem Wtr.row_lt {w : World} {p : Nat} {v : Value} {bs : List Int} (h : Wtr w p v bs) : ∀ k, v.ownBlock = some k → k < w.heap.size := fun k hk => (h.own.lt k hk).2

/-- A writer is as it was where its own blocks are. -/
theorem Wtr.keep {w w' : World} {p : Nat} {v : Value} {bs : List Int} {S : Nat → Prop} (h : Wtr w p v bs) (f : Fr S w w') (hp : ¬ S p) (hr : ∀ k, v.ownBlock = some k → ¬ S k) : Wtr w' p v bs := by
  refine ⟨(f.cell (a := ⟨p, 0, none⟩) h.lt hp).trans h.cell, (f.frozen (a := ⟨p, 0, none⟩) h.lt hp).trans h.frz, ?_, h.apart⟩
  refine ⟨h.own.1, ?_⟩
  rcases h.own.2 with hn | ⟨g, cap, cur, rfl, hb, hgg, rest⟩
  · exact .inl hn
  · refine .inr ⟨g, cap, cur, rfl, hb, ?_, rest⟩
    rw [f.block g (Array.getElem?_eq_some_iff.1 hgg).1 (hr g rfl)]
    exact hgg

/-- Behind an append and the store of the new slice. -/
theorem Wtr.appended {w w1 w2 : World} {p : Nat} {v : Value} {bs : List Int} {g cap H m : Nat} {more : List Int} (h : Wtr w p v bs)
    (hw : Fr (fun _ => False) w w1)
    (hown : w2.ownsRow 0 5 1 (.slice (some ⟨g, 0, none⟩) (bs.length + m) cap) (bs.length + m) (bs.map By ++ more.map By)) (hm : more.length = m)
    (hgrow : w1.grownBy w2 v.ownBlock) (hat : v.ownBlock = some g ∨ g = H) (hH : w.heap.size ≤ H) :
    Wtr (w2.setCell ⟨p, 0, none⟩ (.slice (some ⟨g, 0, none⟩) (bs.length + m) cap)) p (.slice (some ⟨g, 0, none⟩) (bs.length + m) cap) (bs ++ more) ∧
    WStep p w v (w2.setCell ⟨p, 0, none⟩ (.slice (some ⟨g, 0, none⟩) (bs.length + m) cap)) (.slice (some ⟨g, 0, none⟩) (bs.length + m) cap) := by
  have hp := h.lt
  have hne : g ≠ p := by
    intro e; subst e
    rcases hat with e | e
    · exact h.apart e
    · omega
  have c1 : w2.cell? ⟨p, 0, none⟩ = some v := by
    rw [hgrow.cell_far _ (by have := hw.size; show p < _; omega) (Ne.symm h.apart), hw.cell (a := ⟨p, 0, none⟩) hp (by simp)]
    exact h.cell
  have f1 : w2.frozen? ⟨p, 0, none⟩ = false := by
    rw [hgrow.frozen_far _ (by have := hw.size; show p < _; omega) (Ne.symm h.apart), hw.frozen (a := ⟨p, 0, none⟩) hp (by simp)]
    exact h.frz
  have f0 : Fr (Foot p v) w w2 := (hw.mono (fun _ _ h => h.elim)).grown hgrow (fun k hk => .inr (.inr hk))
  refine ⟨⟨?_, ?_, ?_, ?_⟩, ⟨f0.setCell _ (.inr (.inl rfl)) _, ?_⟩⟩
  · exact World.cell?_setCell_same _ _ _ c1
  · rw [World.frozen?_setCell]; exact f1
  · obtain ⟨h1, h2⟩ := hown
    rw [List.length_append, hm, List.map_append]
    refine ⟨h1, ?_⟩
    rcases h2 with h2 | ⟨g', cap', cur, hv, hg, hh, r⟩
    · exact Or.inl h2
    · refine Or.inr ⟨g', cap', cur, hv, hg, ?_, r⟩
      have : g' = g := by simp at hv; exact hv.1.symm
      rw [Below.heap_setCell _ _ _ _ (by rw [this]; exact hne)]; exact hh
  · intro e; simp [Value.ownBlock] at e; exact hne e
  · rcases hat with e | e
    · exact .inl (by rw [e]; rfl)
    · exact .inr fun k hk => by simp [Value.ownBlock] at hk; omega

set_option maxRecDepth 100000

theorem ret_int {k : IntKind} {a b : Int} (h : a = b) : Ending.returned (.int k a) = .returned (.int k b) := by rw [h]

theorem Try.info5 : (Try.prog.info? 5).map (fun i => (i.zero, i.size, i.bytes)) = some (some (.int .u8 0), 1, 1) := by kernel_rfl
theorem len255 (w : World) : Calls Try.prog 80 #[.int .u64 255] w fun e w' => e = .returned (.int .i64 8) ∧ w = w' :=
  (Try.bits_Len64 255 w (by omega) (by omega)).mono fun _ _ h => ⟨h.1, h.2.symm⟩

theorem frozen_alloc {w : World} {p : Nat} (o : Obj) (hp : p < w.heap.size) (hf : w.frozen? ⟨p, 0, none⟩ = false) : (w.alloc o).frozen? ⟨p, 0, none⟩ = false :=
  (World.frozen?_of_block (w := w) (Below.heap_alloc w o p hp)).trans hf
theorem cell_alloc {w : World} {p : Nat} {v : Value} (o : Obj) (hp : p < w.heap.size) (hf : w.cell? ⟨p, 0, none⟩ = some v) : (w.alloc o).cell? ⟨p, 0, none⟩ = some v :=
  (World.cell?_of_block (w := w) (Below.heap_alloc w o p hp)).trans hf

/-- A byte appended to a writer's row, as one step of a region that draws. -/
theorem step_put1 {ops : Array Oper} {o : Oper} {a : Act} {K : Act → World → Prop} {Q : Exit → Act → World → Prop} {E : Prop} (w : World) (p : Nat) (v : Value) (bs : List Int) (x : Int)
    (n : Nat) (hn : Hid (bs.length = n)) (h : Wtr w p v bs) (hb : n < 140737488355328) (hgd : o.guard = none) (s y : Operand)
    (ho : o.op = .call { callee := .builtin .append, args := #[s, y], argTypes := #[33, 33] }) (hs : a.eval s = v) (hx : a.eval y = .slice (some ⟨w.heap.size, 0, none⟩) 1 1)
    (hK : ∀ gg cap w1, w1.cell? ⟨p, 0, none⟩ = some v → w1.frozen? ⟨p, 0, none⟩ = false →
      Hid (Wtr (w1.setCell ⟨p, 0, none⟩ (.slice (some ⟨gg, 0, none⟩) (n + 1) cap)) p (.slice (some ⟨gg, 0, none⟩) (n + 1) cap) (bs ++ [x]) ∧
        WStep p w v (w1.setCell ⟨p, 0, none⟩ (.slice (some ⟨gg, 0, none⟩) (n + 1) cap)) (.slice (some ⟨gg, 0, none⟩) (n + 1) cap)) →
      K (a.put o.dst (.slice (some ⟨gg, 0, none⟩) (n + 1) cap)) w1) :
    if Region.wanted o (yielded ops a.tmps) = true then Oper.wp Try.prog o a ((w.alloc (.cells #[.int .u8 x] 5)).drew) K Q else E := by
  obtain rfl := unhide hn
  obtain ⟨i0, hi0, hz0, hz1, hz2⟩ := info_parts Try.info5
  have hp := h.lt
  refine step_append_lies _ hgd s y 33 ho 0 5 i0 _ 1 1 Try.underlying33 hi0 hz0 hz1 hz2 rfl (by omega) v bs.length (bs.map By) hs ((h.own.alloc _).drew)
    ⟨w.heap.size, 0, none⟩ 1 1 [.int .u8 x] hx rfl (World.news_of_block (cs := #[.int .u8 x]) (t := 5) (fr := (0, 0)) (heap_alloc_new w _)) (by simp [Value.oneCell'])
    (by omega) (by unfold maxLen; omega) (by omega) (by simp) (w.heap.size + 1) (by simp) ?_
  intro gg cap w1 hown1 hgrow hat hlt
  have hfr : Fr (fun _ => False) w (w.alloc (.cells #[.int .u8 x] 5)).drew := ((Fr.refl _ _).alloc _).drew
  refine hK gg cap w1 ?_ ?_ (h.appended (H := w.heap.size + 1) (more := [x]) hfr hown1 rfl hgrow hat (by omega))
  · rw [hgrow.cell_far _ (by simp; omega) (Ne.symm h.apart)]; exact cell_alloc _ hp h.cell
  · rw [hgrow.frozen_far _ (by simp; omega) (Ne.symm h.apart)]; exact frozen_alloc _ hp h.frz

set_option maxHeartbeats 1600000 in
theorem put8_any (p : Nat) (v : Value) (bs : List Int) (x : Int) (w : World) (h : Wtr w p v bs) (hb : bs.length < 140737488355328) :
    Calls Try.prog 57 #[.pointer (some ⟨p, 0, none⟩), .int .u8 x] w fun e w' => e = .returned (.tuple #[]) ∧ ∃ v', Wtr w' p v' (bs ++ [x]) ∧ WStep p w v w' v' := by
  have hc := h.cell
  have hf := h.frz
  have hp := h.lt
  obtain ⟨n, hn⟩ : ∃ n, Hid (bs.length = n) := ⟨_, rfl⟩
  have hb : n < 140737488355328 := by have := unhide hn; omega
  have hsg : IntKind.u8.signed = false := rfl
  have hxx : bits BinOp.xor IntKind.u8 IntKind.u8.max 0 = 255 := by decide
  go_enter Try.func57, Try.ntmps57
  go_wp2_with (go_at_call 80; refine (len255 _).mono ?_; rintro e w' ⟨rfl, rfl⟩)
  go_loopg [4] 1 (fun k s wr => (k = 1 ∧ s = .int .i64 0 ∧ wr = w) ∨ (k = 0 ∧ s = .int .i64 (-8) ∧ ∃ v', Wtr wr p v' (bs ++ [x]) ∧ WStep p w v wr v'))
  case atStart => exact .inl ⟨rfl, rfl, rfl⟩
  case round =>
    rcases hrel with ⟨rfl, rfl, rfl⟩ | ⟨rfl, rfl, hv⟩
    · go_wp2
      go_region_law ((refine step_put1 wr p v bs x n hn h hb (by rfl) _ _ (by rfl) (by rfl) (by rfl) ?_; intro gg cap w1 k0 e0 hh))
      all_goals go_wp2
      all_goals
        go_roundg 0
        case measure => omega
        case rel => exact .inr ⟨rfl, rfl, _, (unhide hh).1, (unhide hh).2⟩
    · go_wp2
      go_end0
      exact ⟨rfl, hv⟩

/-- The bytes of a word, the highest first: the first j of them. -/
def wpre (x : Nat) (j : Nat) : List Int := (List.range j).map fun i => ((x / 2 ^ (56 - 8 * i) % 256 : Nat) : Int)
theorem wpre_succ (x j : Nat) : wpre x (j + 1) = wpre x j ++ [((x / 2 ^ (56 - 8 * j) % 256 : Nat) : Int)] := by
  simp [wpre, List.range_succ]
theorem wpre_length (x j : Nat) : (wpre x j).length = j := by simp [wpre]
theorem castbyte (x k : Nat) : ((x : Int) / 2 ^ k) % 256 = ((x / 2 ^ k % 256 : Nat) : Int) := by
  rw [Int.natCast_emod, Int.natCast_ediv, Int.natCast_pow]; rfl
theorem wpre_step (x m : Nat) (bs : List Int) (hm : m + 1 ≤ 8) : bs ++ wpre x (8 - (m + 1)) ++ [IntKind.u8.wrap (↑x / 2 ^ (8 * ((m : Int) + 1) - 8).toNat)] = bs ++ wpre x (8 - m) := by
  have e : 8 - m = (8 - (m + 1)) + 1 := by omega
  have e2 : (8 * ((m : Int) + 1) - 8).toNat = 56 - 8 * (8 - (m + 1)) := by omega
  rw [e, wpre_succ, List.append_assoc, e2, IntKind.wrap_u8, castbyte]
theorem lenAll (w : World) : Calls Try.prog 80 #[.int .u64 18446744073709551615] w fun e w' => e = .returned (.int .i64 64) ∧ w = w' :=
  (Try.bits_Len64 18446744073709551615 w (by omega) (by omega)).mono fun _ _ h => ⟨h.1, h.2.symm⟩

end Go.Proofs.Ytaldacjeeccbhaa
