/-
  Numbers with a sign.
-/
import Derived.Test.YtclcebdcdbcpjaaGreatPB
import Derived.WalkKit
import Derived.Below
import Derived.Deep.AppendLies
import Derived.Test.YtclcebdcdbcpjaaGreatBits
import Derived.Test.YtclcebdcdbcpjaaGreatMath
import Derived.Laws.BitsAllLaws
import Derived.WalkSpells
import Derived.WalkLawsBesides
import Derived.StillTactics
import Derived.OwnWalk
import Derived.Laws.Pointers
import Derived.Deep.RegionHeld3
import Derived.Deep.RegionLaw
import Derived.Laws.NewBlocks
import Derived.Deep.LoopGhost
import Derived.KernelRfl
import Derived.Maps.AppendAt
import Derived.Lib.AppendStr
namespace Go.Proofs.YtclcebdcdbcpjaaGreat
open Go.RowKit

/-- A byte as a value. -/
def By (z : Int) : Value := .int .u8 z

/-- At block p lies a writer (a struct of one field, the slice v), which holds the bytes bs, in a row of its own. -/
structure Wtr (w : World) (p : Nat) (v : Value) (bs : List Int) : Prop where
  cell : w.cell? ⟨p, 0, none⟩ = some v
  frz : w.frozen? ⟨p, 0, none⟩ = false
  own : w.ownsRow 0 5 1 v bs.length (bs.map By)
  apart : v.ownBlock ≠ some p

/-- What is a writer's own: its struct, and its row. -/
def Foot (p : Nat) (v : Value) : Nat → Prop := fun k => k = p ∨ v.ownBlock = some k

/-- A call of the writer at p: it turns its own alone, and its row stays or is a new one. -/
structure WStep (p : Nat) (w : World) (v : Value) (w' : World) (v' : Value) : Prop where
  fr : Fr (Foot p v) w w'
  row : v'.ownBlock = v.ownBlock ∨ ∀ k, v'.ownBlock = some k → w.heap.size ≤ k

theorem WStep.refl (p : Nat) (w : World) (v : Value) : WStep p w v w v := ⟨Fr.refl _ _, .inl rfl⟩
theorem WStep.trans {p : Nat} {w w1 w2 : World} {v v1 v2 : Value} (h : WStep p w v w1 v1) (k : WStep p w1 v1 w2 v2) : WStep p w v w2 v2 := by
  have hs := h.fr.size
  refine ⟨⟨k.fr.os.trans h.fr.os, k.fr.tape.trans h.fr.tape, k.fr.output.trans h.fr.output, Nat.le_trans hs k.fr.size, fun i hi hn => ?_⟩, ?_⟩
  · rw [k.fr.block i (by omega) ?_]
    · exact h.fr.block i hi hn
    · rintro (e | e)
      · exact hn (.inl e)
      · rcases h.row with r | r
        · exact hn (.inr (r ▸ e))
        · have := r i e; omega
  · rcases k.row with r | r
    · rcases h.row with q | q
      · exact .inl (r.trans q)
      · exact .inr fun k hk => q k (r ▸ hk)
    · exact .inr fun k hk => by have := r k hk; omega

theorem Wtr.lt {w : World} {p : Nat} {v : Value} {bs : List Int} (h : Wtr w p v bs) : p < w.heap.size := World.block_lt_of_cell? _ _ h.cell
theorem Wtr.row_lt {w : World} {p : Nat} {v : Value} {bs : List Int} (h : Wtr w p v bs) : ∀ k, v.ownBlock = some k → k < w.heap.size := fun k hk => (h.own.lt k hk).2

/-- A writer is as it was where its own blocks are. -/
theorem Wtr.keep {w w' : World} {p : Nat} {v : Value} {bs : List Int} {S : Nat → Prop} (h : Wtr w p v bs) (f : Fr S w w') (hp : ¬ S p) (hr : ∀ k, v.ownBlock = some k → ¬ S k) : Wtr w' p v bs := by
  refine ⟨(f.cell (a := ⟨p, 0, none⟩) h.lt hp).trans h.cell, (f.frozen (a := ⟨p, 0, none⟩) h.lt hp).trans h.frz, ?_, h.apart⟩
  refine ⟨h.own.1, ?_⟩
  rcases h.own.2 with hn | ⟨g, cap, cur, rfl, hb, hgg, rest⟩
  · exact .inl hn
  · refine .inr ⟨g, cap, cur, rfl, hb, ?_, rest⟩
    rw [f.block g (Array.getElem?_eq_some_iff.1 hgg).1 (hr g rfl)]
    exact hgg

/-- Behind an append and the store of the new slice. -/
theorem Wtr.appended {w w1 w2 : World} {p : Nat} {v : Value} {bs : List Int} {g cap H m : Nat} {more : List Int} (h : Wtr w p v bs)
    (hw : Fr (fun _ => False) w w1)
    (hown : w2.ownsRow 0 5 1 (.slice (some ⟨g, 0, none⟩) (bs.length + m) cap) (bs.length + m) (bs.map By ++ more.map By)) (hm : more.length = m)
    (hgrow : w1.grownBy w2 v.ownBlock) (hat : v.ownBlock = some g ∨ g = H) (hH : w.heap.size ≤ H) :
    Wtr (w2.setCell ⟨p, 0, none⟩ (.slice (some ⟨g, 0, none⟩) (bs.length + m) cap)) p (.slice (some ⟨g, 0, none⟩) (bs.length + m) cap) (bs ++ more) ∧
    WStep p w v (w2.setCell ⟨p, 0, none⟩ (.slice (some ⟨g, 0, none⟩) (bs.length + m) cap)) (.slice (some ⟨g, 0, none⟩) (bs.length + m) cap) := by
  have hp := h.lt
  have hne : g ≠ p := by
    intro e; subst e
    rcases hat with e | e
    · exact h.apart e
    · omega
  have c1 : w2.cell? ⟨p, 0, none⟩ = some v := by
    rw [hgrow.cell_far _ (by have := hw.size; show p < _; omega) (Ne.symm h.apart), hw.cell (a := ⟨p, 0, none⟩) hp (by simp)]
    exact h.cell
  have f1 : w2.frozen? ⟨p, 0, none⟩ = false := by
    rw [hgrow.frozen_far _ (by have := hw.size; show p < _; omega) (Ne.symm h.apart), hw.frozen (a := ⟨p, 0, none⟩) hp (by simp)]
    exact h.frz
  have f0 : Fr (Foot p v) w w2 := (hw.mono (fun _ _ h => h.elim)).grown hgrow (fun k hk => .inr (.inr hk))
  refine ⟨⟨?_, ?_, ?_, ?_⟩, ⟨f0.setCell _ (.inr (.inl rfl)) _, ?_⟩⟩
  · exact World.cell?_setCell_same _ _ _ c1
  · rw [World.frozen?_setCell]; exact f1
  · obtain ⟨h1, h2⟩ := hown
    rw [List.length_append, hm, List.map_append]
    refine ⟨h1, ?_⟩
    rcases h2 with h2 | ⟨g', cap', cur, hv, hg, hh, r⟩
    · exact Or.inl h2
    · refine Or.inr ⟨g', cap', cur, hv, hg, ?_, r⟩
      have : g' = g := by simp at hv; exact hv.1.symm
      rw [Below.heap_setCell _ _ _ _ (by rw [this]; exact hne)]; exact hh
  · intro e; simp [Value.ownBlock] at e; exact hne e
  · rcases hat with e | e
    · exact .inl (by rw [e]; rfl)
    · exact .inr fun k hk => by simp [Value.ownBlock] at hk; omega

set_option maxRecDepth 100000

theorem ret_int {k : IntKind} {a b : Int} (h : a = b) : Ending.returned (.int k a) = .returned (.int k b) := by rw [h]

theorem Tryz.info5 : (Tryz.prog.info? 5).map (fun i => (i.zero, i.size, i.bytes)) = some (some (.int .u8 0), 1, 1) := by kernel_rfl
theorem len255 (w : World) : Calls Tryz.prog 75 #[.int .u64 255] w fun e w' => e = .returned (.int .i64 8) ∧ w = w' :=
  (Tryz.bits_Len64 255 w (by omega) (by omega)).mono fun _ _ h => ⟨h.1, h.2.symm⟩

theorem frozen_alloc {w : World} {p : Nat} (o : Obj) (hp : p < w.heap.size) (hf : w.frozen? ⟨p, 0, none⟩ = false) : (w.alloc o).frozen? ⟨p, 0, none⟩ = false :=
  (World.frozen?_of_block (w := w) (Below.heap_alloc w o p hp)).trans hf
theorem cell_alloc {w : World} {p : Nat} {v : Value} (o : Obj) (hp : p < w.heap.size) (hf : w.cell? ⟨p, 0, none⟩ = some v) : (w.alloc o).cell? ⟨p, 0, none⟩ = some v :=
  (World.cell?_of_block (w := w) (Below.heap_alloc w o p hp)).trans hf

/-- A byte appended to a writer's row, as one step of a region that draws. -/
theorem step_put1 {ops : Array Oper} {o : Oper} {a : Act} {K : Act → World → Prop} {Q : Exit → Act → World → Prop} {E : Prop} (w : World) (p : Nat) (v : Value) (bs : List Int) (x : Int)
    (n : Nat) (hn : Hid (bs.length = n)) (h : Wtr w p v bs) (hb : n < 140737488355328) (hgd : o.guard = none) (s y : Operand)
    (ho : o.op = .call { callee := .builtin .append, args := #[s, y], argTypes := #[22, 22] }) (hs : a.eval s = v) (hx : a.eval y = .slice (some ⟨w.heap.size, 0, none⟩) 1 1)
    (hK : ∀ gg cap w1, w1.cell? ⟨p, 0, none⟩ = some v → w1.frozen? ⟨p, 0, none⟩ = false →
      Hid (Wtr (w1.setCell ⟨p, 0, none⟩ (.slice (some ⟨gg, 0, none⟩) (n + 1) cap)) p (.slice (some ⟨gg, 0, none⟩) (n + 1) cap) (bs ++ [x]) ∧
        WStep p w v (w1.setCell ⟨p, 0, none⟩ (.slice (some ⟨gg, 0, none⟩) (n + 1) cap)) (.slice (some ⟨gg, 0, none⟩) (n + 1) cap)) →
      K (a.put o.dst (.slice (some ⟨gg, 0, none⟩) (n + 1) cap)) w1) :
    if Region.wanted o (yielded ops a.tmps) = true then Oper.wp Tryz.prog o a ((w.alloc (.cells #[.int .u8 x] 5)).drew) K Q else E := by
  obtain rfl := unhide hn
  obtain ⟨i0, hi0, hz0, hz1, hz2⟩ := info_parts Tryz.info5
  have hp := h.lt
  refine step_append_lies _ hgd s y 22 ho 0 5 i0 _ 1 1 Tryz.underlying22 hi0 hz0 hz1 hz2 rfl (by omega) v bs.length (bs.map By) hs ((h.own.alloc _).drew)
    ⟨w.heap.size, 0, none⟩ 1 1 [.int .u8 x] hx rfl (World.news_of_block (cs := #[.int .u8 x]) (t := 5) (fr := (0, 0)) (heap_alloc_new w _)) (by simp [Value.oneCell'])
    (by omega) (by unfold maxLen; omega) (by omega) (by simp) (w.heap.size + 1) (by simp) ?_
  intro gg cap w1 hown1 hgrow hat hlt
  have hfr : Fr (fun _ => False) w (w.alloc (.cells #[.int .u8 x] 5)).drew := ((Fr.refl _ _).alloc _).drew
  refine hK gg cap w1 ?_ ?_ (h.appended (H := w.heap.size + 1) (more := [x]) hfr hown1 rfl hgrow hat (by omega))
  · rw [hgrow.cell_far _ (by simp; omega) (Ne.symm h.apart)]; exact cell_alloc _ hp h.cell
  · rw [hgrow.frozen_far _ (by simp; omega) (Ne.symm h.apart)]; exact frozen_alloc _ hp h.frz

set_option maxHeartbeats 1600000 in
theorem put8_any (p : Nat) (v : Value) (bs : List Int) (x : Int) (w : World) (h : Wtr w p v bs) (hb : bs.length < 140737488355328) :
    Calls Tryz.prog 51 #[.pointer (some ⟨p, 0, none⟩), .int .u8 x] w fun e w' => e = .returned (.tuple #[]) ∧ ∃ v', Wtr w' p v' (bs ++ [x]) ∧ WStep p w v w' v' := by
  have hc := h.cell
  have hf := h.frz
  have hp := h.lt
  obtain ⟨n, hn⟩ : ∃ n, Hid (bs.length = n) := ⟨_, rfl⟩
  have hb : n < 140737488355328 := by have := unhide hn; omega
  have hsg : IntKind.u8.signed = false := rfl
  have hxx : bits BinOp.xor IntKind.u8 IntKind.u8.max 0 = 255 := by decide
  go_enter Tryz.func51, Tryz.ntmps51
  go_wp2_with (go_at_call 75; refine (len255 _).mono ?_; rintro e w' ⟨rfl, rfl⟩)
  go_loopg [4] 1 (fun k s wr => (k = 1 ∧ s = .int .i64 0 ∧ wr = w) ∨ (k = 0 ∧ s = .int .i64 (-8) ∧ ∃ v', Wtr wr p v' (bs ++ [x]) ∧ WStep p w v wr v'))
  case atStart => exact .inl ⟨rfl, rfl, rfl⟩
  case round =>
    rcases hrel with ⟨rfl, rfl, rfl⟩ | ⟨rfl, rfl, hv⟩
    · go_wp2
      go_region_law ((refine step_put1 wr p v bs x n hn h hb (by rfl) _ _ (by rfl) (by rfl) (by rfl) ?_; intro gg cap w1 k0 e0 hh))
      all_goals go_wp2
      all_goals
        go_roundg 0
        case measure => omega
        case rel => exact .inr ⟨rfl, rfl, _, (unhide hh).1, (unhide hh).2⟩
    · go_wp2
      go_end0
      exact ⟨rfl, hv⟩

/-- The bytes of a word, the highest first: the first j of them. -/
def wpre (x : Nat) (j : Nat) : List Int := (List.range j).map fun i => ((x / 2 ^ (56 - 8 * i) % 256 : Nat) : Int)
theorem wpre_succ (x j : Nat) : wpre x (j + 1) = wpre x j ++ [((x / 2 ^ (56 - 8 * j) % 256 : Nat) : Int)] := by
  simp [wpre, List.range_succ]
theorem wpre_length (x j : Nat) : (wpre x j).length = j := by simp [wpre]
theorem castbyte (x k : Nat) : ((x : Int) / 2 ^ k) % 256 = ((x / 2 ^ k % 256 : Nat) : Int) := by
  rw [Int.natCast_emod, Int.natCast_ediv, Int.natCast_pow]; rfl
theorem wpre_step (x m : Nat) (bs : List Int) (hm : m + 1 ≤ 8) : bs ++ wpre x (8 - (m + 1)) ++ [IntKind.u8.wrap (↑x / 2 ^ (8 * ((m : Int) + 1) - 8).toNat)] = bs ++ wpre x (8 - m) := by
  have e : 8 - m = (8 - (m + 1)) + 1 := by omega
  have e2 : (8 * ((m : Int) + 1) - 8).toNat = 56 - 8 * (8 - (m + 1)) := by omega
  rw [e, wpre_succ, List.append_assoc, e2, IntKind.wrap_u8, castbyte]
theorem lenAll (w : World) : Calls Tryz.prog 75 #[.int .u64 18446744073709551615] w fun e w' => e = .returned (.int .i64 64) ∧ w = w' :=
  (Tryz.bits_Len64 18446744073709551615 w (by omega) (by omega)).mono fun _ _ h => ⟨h.1, h.2.symm⟩



set_option maxRecDepth 100000 in
set_option maxHeartbeats 400000 in
theorem newWriter_any (w : World) (p : Nat) (hp : w.heap.size = p) :
    Calls Tryz.prog 25 #[] w fun e w' => e = .returned (.pointer (some ⟨p, 0, none⟩)) ∧ Wtr w' p (.slice none 0 0) [] ∧ Below p w w' ∧ p < w'.heap.size := by
  subst hp
  go_enter Tryz.func25, Tryz.ntmps25
  go_wp2
  go_ret
  refine ⟨rfl, ⟨by simp, ?_, World.ownsRow_nil _ _ _ _, by simp [Value.ownBlock]⟩, (Below.refl _ _).alloc (Nat.le_refl _) _, by simp⟩
  simp only [World.frozen?, heap_alloc_new]; rfl

set_option maxRecDepth 100000 in
set_option maxHeartbeats 400000 in
theorem byte_any (p : Nat) (v : Value) (bs : List Int) (x : Int) (w : World) (h : Wtr w p v bs) (hb : bs.length < 140737488355328) :
    Calls Tryz.prog 52 #[.pointer (some ⟨p, 0, none⟩), .int .u8 x] w fun e w' => e = .returned (.tuple #[]) ∧ ∃ v', Wtr w' p v' (bs ++ [x]) ∧ WStep p w v w' v' := by
  have h1 := hide (put8_any p v bs x w h hb)
  clear h hb
  go_enter Tryz.func52, Tryz.ntmps52
  go_wp2_with fail
  refine (unhide h1).mono ?_
  rintro e w' ⟨rfl, hh⟩
  go_wp2
  go_end0
  exact ⟨rfl, hh⟩

set_option maxRecDepth 100000 in
set_option maxHeartbeats 800000 in
theorem uint_any (p : Nat) (v : Value) (bs : List Int) (x : Nat) (w : World) (h : Wtr w p v bs) (hb : bs.length + 10 ≤ 140737488355328) (hx : x < 2 ^ 64) :
    Calls Tryz.prog 27 #[.pointer (some ⟨p, 0, none⟩), .int .u64 x] w fun e w' => e = .returned (.tuple #[]) ∧ ∃ v', Wtr w' p v' (bs ++ Wm.uform 9 x) ∧ WStep p w v w' v' := by
  have hS : Wm.UAt x x 9 [] := Wm.UAt.start x hx
  have hS2 : Wtr w p v (bs ++ []) := by simpa using h
  clear h
  go_enter Tryz.func27, Tryz.ntmps27
  go_wp2
  go_loopg [1] 9 (fun k s wr => ∃ (z : Nat) (done : List Int) (v' : Value), s = .int .u64 z ∧ Wm.UAt x z k done ∧ Wtr wr p v' (bs ++ done) ∧ WStep p w v wr v')
  case atStart => exact ⟨x, [], v, rfl, hS, hS2, WStep.refl _ _ _⟩
  case round =>
    obtain ⟨z, done, v', rfl, hU, hW, hT⟩ := hrel
    clear hS hS2
    have hl : (bs ++ done).length < 140737488355328 := by have := hU.len; rw [List.length_append]; omega
    have HU := hide hU
    have HT := hide hT
    have HW := hide hW
    clear hU hW hT
    by_cases hlt : 128 ≤ z
    · go_wp2_with fail
      refine (put8_any p v' (bs ++ done) _ wr (unhide HW) hl).mono ?_
      rintro e w' ⟨rfl, v2, hW2, hT2⟩
      have HW2 := hide hW2
      have HT2 := hide hT2
      clear hW2 hT2
      obtain ⟨m, rfl, hN⟩ := (unhide HU).next hlt
      have HN := hide hN
      clear hN
      go_wp2
      go_roundg m
      case measure => omega
      case rel => exact ⟨z / 128, done ++ [((z % 128 + 128 : Nat) : Int)], v2, by go_num, unhide HN, by rw [← List.append_assoc, ← Wm.or128i z]; exact unhide HW2, (unhide HT).trans (unhide HT2)⟩
    · have HD := hide ((unhide HU).done (by omega))
      go_wp2_with fail
      refine (put8_any p v' (bs ++ done) _ wr (unhide HW) hl).mono ?_
      rintro e w' ⟨rfl, v2, hW2, hT2⟩
      have HW2 := hide hW2
      have HT2 := hide hT2
      clear hW2 hT2
      go_wp2
      go_end0
      exact ⟨rfl, v2, by rw [← unhide HD, ← List.append_assoc]; exact unhide HW2, (unhide HT).trans (unhide HT2)⟩


theorem addr_add0 (g i : Nat) : (⟨g, 0, none⟩ : Addr).add i = ⟨g, i, none⟩ := by unfold Addr.add; split <;> simp_all

/-- The slice v reads as the bytes bs. -/
def Rd (w : World) (v : Value) (bs : List Int) : Prop :=
  (v = .slice none 0 0 ∧ bs = []) ∨ ∃ b off cap, v = .slice (some ⟨b, off, none⟩) bs.length cap ∧ bs.length ≤ cap ∧ cap ≤ maxLen ∧ b < w.heap.size ∧ ∀ i, i < bs.length → w.cell? ⟨b, off + i, none⟩ = some (.int .u8 (bs.getD i 0))

theorem Rd.of_own {w : World} {base : Nat} {v : Value} {bs : List Int} (h : w.ownsRow base 5 1 v bs.length (bs.map By)) : Rd w v bs := by
  have hl := h.lt
  have hcs : ∀ g, v.ownBlock = some g → _ := fun g => @World.ownsRow.cells w base 5 1 v bs.length (bs.map By) h g
  rcases h.2 with ⟨rfl, h0⟩ | ⟨g, cap, cur, rfl, hb, hg, hn, hc, hs, ht⟩
  · exact .inl ⟨rfl, List.eq_nil_of_length_eq_zero h0⟩
  · refine .inr ⟨g, 0, cap, rfl, hn, hc, (hl g rfl).2, fun i hi => ?_⟩
    have := hcs g rfl i (By (bs.getD i 0)) (by simp [List.getD, hi])
    rw [addr_add0] at this
    simpa [By] using this

theorem Rd.keep {w w' : World} {S : Nat → Prop} {v : Value} {bs : List Int} (h : Rd w v bs) (f : Fr S w w') (hS : ∀ b off len cap, v = .slice (some ⟨b, off, none⟩) len cap → ¬ S b) : Rd w' v bs := by
  rcases h with h | ⟨b, off, cap, rfl, h1, h2, h3, h4⟩
  · exact .inl h
  · refine .inr ⟨b, off, cap, rfl, h1, h2, Nat.lt_of_lt_of_le h3 f.size, fun i hi => ?_⟩
    rw [f.cell (a := ⟨b, off + i, none⟩) h3 (hS b off _ cap rfl)]
    exact h4 i hi
theorem Rd.below {w w' : World} {v : Value} {bs : List Int} (h : Rd w v bs) (f : Below w.heap.size w w') : Rd w' v bs :=
  h.keep (Fr.of_below (S := fun _ => False) f) (by simp)

theorem addr_add_block (a : Addr) (j : Nat) : (a.add j).block = a.block := by unfold Addr.add; split <;> rfl

set_option maxRecDepth 100000 in
set_option maxHeartbeats 400000 in
theorem clone_nil (w : World) :
    Calls Tryz.prog 43 #[.slice none 0 0] w fun e w' => e = .returned (.slice none 0 0) ∧ w = w' := by
  have hnil := fun (a : Option Addr) (n c : Nat) (w : World) => Lib.run_eql_slice_nil (P := Tryz.prog) w 22 5 a n c 0 0 Tryz.underlying22
  go_enter Tryz.func43, Tryz.ntmps43
  go_wp2
  go_ret
  exact ⟨rfl, rfl⟩

set_option maxRecDepth 100000 in
set_option maxHeartbeats 400000 in
theorem clone_some (a : Addr) (n cap : Nat) (news : List Value) (w : World) (hl : news.length = n) (hnews : ∀ j u, news[j]? = some u → w.cell? (a.add j) = some u) (h1 : ∀ u ∈ news, u.oneCell' = true) (hn : n ≤ 140737488355328) (ha : a.block < w.heap.size) :
    Calls Tryz.prog 43 #[.slice (some a) n cap] w fun e w' => ∃ v', e = .returned v' ∧ w'.ownsRow w.heap.size 5 1 v' n news ∧ Below w.heap.size w w' := by
  have hnil := fun (a : Option Addr) (n c : Nat) (w : World) => Lib.run_eql_slice_nil (P := Tryz.prog) w 22 5 a n c 0 0 Tryz.underlying22
  obtain ⟨i0, hi0, hz0, hz1, hz2⟩ := info_parts Tryz.info5
  have HN : Hid (∀ j u, news[j]? = some u → (w.alloc (.cells #[] 5)).cell? (a.add j) = some u) := fun j u hj =>
    (World.cell?_of_block (w := w) (Below.heap_alloc w _ _ (by rw [addr_add_block]; exact ha))).trans (hnews j u hj)
  have H1 := hide h1
  have HL := hide hl
  clear hnews h1 hl ha
  go_enter Tryz.func43, Tryz.ntmps43
  go_wp2_with (at_builtin; refine wpList_append_own_at _ rfl (.tmp 5) (.tmp 6) 22 rfl w.heap.size 5 i0 (.int .u8 0) 1 1 Tryz.underlying22 hi0 hz0 hz1 hz2 rfl (by omega) (.slice (some ⟨w.heap.size, 0, none⟩) 0 0) 0 [] rfl (World.ownsRow_made w #[] 0 (Nat.le_refl _) (by unfold maxLen; omega) rfl) a n cap news rfl (by rw [unhide HL]; omega) (unhide HN) (unhide H1) (by unfold maxLen; omega) (by omega) (by simp) ?_)
  intro v' w1 ho hg _ _
  go_wp2
  go_ret
  refine ⟨v', rfl, by simpa using ho, ?_⟩
  exact ((Below.refl _ _).alloc (Nat.le_refl _) _).grown hg (by simp) (by intro k hk; simp [Value.ownBlock] at hk; omega)

set_option maxRecDepth 100000 in
set_option maxHeartbeats 400000 in
/-- Done, of a writer: what it holds, in memory of its own. -/
theorem done_any (p : Nat) (v : Value) (bs : List Int) (w : World) (h : Wtr w p v bs) (hb : bs.length ≤ 140737488355328) :
    Calls Tryz.prog 30 #[.pointer (some ⟨p, 0, none⟩)] w fun e w' => ∃ v', e = .returned v' ∧ w'.ownsRow w.heap.size 5 1 v' bs.length (bs.map By) ∧ Below w.heap.size w w' := by
  have hc := h.cell
  have hlt := h.row_lt
  rcases h.own.2 with ⟨rfl, h0⟩ | ⟨g, cap, cur, rfl, _, hg, hn, hcm, hs, ht⟩
  · have hbs : bs = [] := List.eq_nil_of_length_eq_zero h0
    subst hbs
    clear h hlt
    go_enter Tryz.func30, Tryz.ntmps30
    go_wp2_with (go_at_call 43; refine (clone_nil _).mono ?_; rintro e w' ⟨rfl, rfl⟩)
    go_ret
    exact ⟨_, rfl, World.ownsRow_nil _ _ _ _, Below.refl _ _⟩
  · have hcl := hide (clone_some ⟨g, 0, none⟩ bs.length cap (bs.map By) w (by simp) (@World.ownsRow.cells w 0 5 1 _ bs.length (bs.map By) h.own g rfl) (by simp [By, Value.oneCell']) hb (hlt g rfl))
    clear h hlt hg hs ht hcm hn
    go_enter Tryz.func30, Tryz.ntmps30
    go_wp2_with fail
    refine (unhide hcl).mono ?_
    rintro e w' ⟨v', rfl, ho, hb⟩
    go_wp2
    go_ret
    exact ⟨v', rfl, ho, hb⟩


/-- The number that stands for one with a sign. -/
def foldI (n : Int) : Int := if 0 ≤ n then 2 * n else -2 * n - 1

theorem nat_xor_ones (a : Nat) (h : a < 2 ^ 64) : a ^^^ (2 ^ 64 - 1) = 2 ^ 64 - 1 - a := by
  have e := congrArg BitVec.toNat (BitVec.xor_allOnes (x := BitVec.ofNat 64 a))
  rw [BitVec.toNat_xor, BitVec.toNat_not, BitVec.toNat_allOnes, BitVec.toNat_ofNat, Nat.mod_eq_of_lt h] at e
  exact e
theorem xor_zero64 (a : Int) (h0 : 0 ≤ a) (h1 : a < 18446744073709551616) : bits .xor .u64 a 0 = a := by
  rw [u64_xor a 0 h0 h1 (by omega) (by omega)]
  simp only [Int.toNat_zero, Nat.xor_zero]; omega
theorem xor_ones64 (a : Int) (h0 : 0 ≤ a) (h1 : a < 18446744073709551616) : bits .xor .u64 a 18446744073709551615 = 18446744073709551615 - a := by
  rw [u64_xor a 18446744073709551615 h0 h1 (by omega) (by omega)]
  have e := nat_xor_ones a.toNat (by omega)
  rw [show (18446744073709551615 : Int).toNat = 2 ^ 64 - 1 from rfl, e]
  omega
theorem fold_pos (n : Int) (hn : 0 ≤ n) (h1 : n ≤ 9223372036854775807) : bits BinOp.xor IntKind.u64 (n * 2) (n / 9223372036854775808) = foldI n := by
  rw [show n / 9223372036854775808 = 0 from by omega, xor_zero64 _ (by omega) (by omega), foldI, if_pos hn]; omega
theorem fold_neg (n : Int) (hn : n < 0) (h0 : -9223372036854775808 ≤ n) : bits BinOp.xor IntKind.u64 (IntKind.u64.wrap (IntKind.u64.wrap n * 2)) (IntKind.u64.wrap (n / 9223372036854775808)) = foldI n := by
  simp only [IntKind.wrap_u64]
  rw [show n / 9223372036854775808 % 18446744073709551616 = 18446744073709551615 from by omega, xor_ones64 _ (by omega) (by omega), foldI, if_neg (by omega)]; omega
theorem foldI_bd (n : Int) (h0 : -9223372036854775808 ≤ n) (h1 : n ≤ 9223372036854775807) : 0 ≤ foldI n ∧ foldI n < 18446744073709551616 := by
  unfold foldI; split <;> omega

set_option maxRecDepth 100000 in
set_option maxHeartbeats 400000 in
theorem fold_any (n : Int) (w : World) (h0 : -9223372036854775808 ≤ n) (h1 : n ≤ 9223372036854775807) :
    Calls Tryz.prog 76 #[.int .i64 n] w fun e w' => e = .returned (.int .u64 (foldI n)) ∧ w' = w := by
  by_cases hn : 0 ≤ n
  · have e := hide (fold_pos n hn h1)
    go_enter Tryz.func76, Tryz.ntmps76
    go_wp2
    go_ret
    exact ⟨ret_int (unhide e), rfl⟩
  · have e := hide (fold_neg n (by omega) h0)
    go_enter Tryz.func76, Tryz.ntmps76
    go_wp2
    go_ret
    exact ⟨ret_int (unhide e), rfl⟩

set_option maxRecDepth 100000 in
set_option maxHeartbeats 400000 in
theorem int_any (p : Nat) (v : Value) (bs : List Int) (n : Int) (w : World) (h : Wtr w p v bs) (hb : bs.length + 10 ≤ 140737488355328) (h0 : -9223372036854775808 ≤ n) (h1 : n ≤ 9223372036854775807) :
    Calls Tryz.prog 53 #[.pointer (some ⟨p, 0, none⟩), .int .i64 n] w fun e w' => e = .returned (.tuple #[]) ∧ ∃ v', Wtr w' p v' (bs ++ Wm.uform 9 (foldI n).toNat) ∧ WStep p w v w' v' := by
  have hbd := foldI_bd n h0 h1
  have hF := fold_any n w h0 h1
  obtain ⟨y, hy⟩ : ∃ y : Nat, foldI n = y := ⟨(foldI n).toNat, by omega⟩
  rw [hy] at hbd hF ⊢
  have HF := hide hF
  have HU := hide (uint_any p v bs y w h hb (by omega))
  rw [Int.toNat_natCast]
  clear hy hbd h hF h0 h1
  go_enter Tryz.func53, Tryz.ntmps53
  go_wp2_with fail
  refine (unhide HF).mono ?_
  rintro e w' ⟨rfl, rfl⟩
  go_wp2_with fail
  refine (unhide HU).mono ?_
  rintro e w' ⟨rfl, hh⟩
  go_wp2
  go_end0
  exact ⟨rfl, hh⟩
end Go.Proofs.YtclcebdcdbcpjaaGreat
