/-
  Done: a copy of what a writer holds.
-/
import Derived.Test.YtlogmdldjmkkjaaGreatDoorRows
import Derived.Test.YtlogmdldjmkkjaaGreatDoorRBase
import Derived.WalkKit
import Derived.Below
import Derived.Deep.AppendLies
import Derived.Test.YtlogmdldjmkkjaaGreatDoorBits
import Derived.Test.YtlogmdldjmkkjaaGreatDoorMath
import Derived.Laws.BitsAllLaws
import Derived.WalkSpells
import Derived.WalkLawsBesides
import Derived.StillTactics
import Derived.OwnWalk
import Derived.Laws.Pointers
import Derived.Deep.RegionHeld3
import Derived.Deep.RegionLaw
import Derived.Laws.NewBlocks
import Derived.Deep.LoopGhost
import Derived.KernelRfl
import Derived.Maps.AppendAt
import Derived.Lib.AppendStr
namespace Go.Proofs.YtlogmdldjmkkjaaGreatDoor
open Go.RowKit

/-- A byte as a value. -/
def By (z : Int) : Value := .int .u8 z

/-- At block p lies a writer (a struct of one field, the slice v), which holds the bytes bs, in a row of its own. -/
structure Wtr (w : World) (p : Nat) (v : Value) (bs : List Int) : Prop where
  cell : w.cell? ⟨p, 0, none⟩ = some v
  frz : w.frozen? ⟨p, 0, none⟩ = false
  own : w.ownsRow 0 5 1 v bs.length (bs.map By)
  apart : v.ownBlock ≠ some p

/-- What is a writer's own: its struct, and its row. -/
def Foot (p : Nat) (v : Value) : Nat → Prop := fun k => k = p ∨ v.ownBlock = some k

/-- A call of the writer at p: it turns its own alone, and its row stays or is a new one. -/
structure WStep (p : Nat) (w : World) (v : Value) (w' : World) (v' : Value) : Prop where
  fr : Fr (Foot p v) w w'
  row : v'.ownBlock = v.ownBlock ∨ ∀ k, v'.ownBlock = some k → w.heap.size ≤ k

theorem WStep.refl (p : Nat) (w : World) (v : Value) : WStep p w v w v := ⟨Fr.refl _ _, .inl rfl⟩
theorem WStep.trans {p : Nat} {w w1 w2 : World} {v v1 v2 : Value} (h : WStep p w v w1 v1) (k : WStep p w1 v1 w2 v2) : WStep p w v w2 v2 := by
  have hs := h.fr.size
  refine ⟨⟨k.fr.os.trans h.fr.os, k.fr.tape.trans h.fr.tape, k.fr.output.trans h.fr.output, Nat.le_trans hs k.fr.size, fun i hi hn => ?_⟩, ?_⟩
  · rw [k.fr.block i (by omega) ?_]
    · exact h.fr.block i hi hn
    · rintro (e | e)
      · exact hn (.inl e)
      · rcases h.row with r | r
        · exact hn (.inr (r ▸ e))
        · have := r i e; omega
  · rcases k.row with r | r
    · rcases h.row with q | q
      · exact .inl (r.trans q)
      · exact .inr fun k hk => q k (r ▸ hk)
    · exact .inr fun k hk => by have := r k hk; omega

theorem Wtr.lt {w : World} {p : Nat} {v : Value} {bs : List Int} (h : Wtr w p v bs) : p < w.heap.size := World.block_lt_of_cell? _ _ h.cell
/-- A writer is as it was where its own blocks are. -/
theorem Wtr.keep {w w' : World} {p : Nat} {v : Value} {bs : List Int} {S : Nat → Prop} (h : Wtr w p v bs) (f : Fr S w w') (hp : ¬ S p) (hr : ∀ k, v.ownBlock = some k → ¬ S k) : Wtr w' p v bs := by
  refine ⟨(f.cell (a := ⟨p, 0, none⟩) h.lt hp).trans h.cell, (f.frozen (a := ⟨p, 0, none⟩) h.lt hp).trans h.frz, ?_, h.apart⟩
  refine ⟨h.own.1, ?_⟩
  rcases h.own.2 with hn | ⟨g, cap, cur, rfl, hb, hgg, rest⟩
  · exact .inl hn
  · refine .inr ⟨g, cap, cur, rfl, hb, ?_, rest⟩
    rw [f.block g (Array.getElem?_eq_some_iff.1 hgg).1 (hr g rfl)]
    exact hgg

theorem ret_int {k : IntKind} {a b : Int} (h : a = b) : Ending.returned (.int k a) = .returned (.int k b) := by rw [h]

theorem Tryz.info5 : (Tryz.prog.info? 5).map (fun i => (i.zero, i.size, i.bytes)) = some (some (.int .u8 0), 1, 1) := by kernel_rfl
/-- The bytes of a word, the highest first: the first j of them. -/
def wpre (x : Nat) (j : Nat) : List Int := (List.range j).map fun i => ((x / 2 ^ (56 - 8 * i) % 256 : Nat) : Int)
theorem wpre_succ (x j : Nat) : wpre x (j + 1) = wpre x j ++ [((x / 2 ^ (56 - 8 * j) % 256 : Nat) : Int)] := by
  simp [wpre, List.range_succ]
theorem wpre_length (x j : Nat) : (wpre x j).length = j := by simp [wpre]
theorem castbyte (x k : Nat) : ((x : Int) / 2 ^ k) % 256 = ((x / 2 ^ k % 256 : Nat) : Int) := by
  rw [Int.natCast_emod, Int.natCast_ediv, Int.natCast_pow]; rfl
theorem addr_add0 (g i : Nat) : (⟨g, 0, none⟩ : Addr).add i = ⟨g, i, none⟩ := by unfold Addr.add; split <;> simp_all

/-- The slice v reads as the bytes bs. -/
def Rd (w : World) (v : Value) (bs : List Int) : Prop :=
  (v = .slice none 0 0 ∧ bs = []) ∨ ∃ b off cap, v = .slice (some ⟨b, off, none⟩) bs.length cap ∧ bs.length ≤ cap ∧ cap ≤ maxLen ∧ b < w.heap.size ∧ ∀ i, i < bs.length → w.cell? ⟨b, off + i, none⟩ = some (.int .u8 (bs.getD i 0))

theorem Rd.of_own {w : World} {base : Nat} {v : Value} {bs : List Int} (h : w.ownsRow base 5 1 v bs.length (bs.map By)) : Rd w v bs := by
  have hl := h.lt
  have hcs : ∀ g, v.ownBlock = some g → _ := fun g => @World.ownsRow.cells w base 5 1 v bs.length (bs.map By) h g
  rcases h.2 with ⟨rfl, h0⟩ | ⟨g, cap, cur, rfl, hb, hg, hn, hc, hs, ht⟩
  · exact .inl ⟨rfl, List.eq_nil_of_length_eq_zero h0⟩
  · refine .inr ⟨g, 0, cap, rfl, hn, hc, (hl g rfl).2, fun i hi => ?_⟩
    have := hcs g rfl i (By (bs.getD i 0)) (by simp [List.getD, hi])
    rw [addr_add0] at this
    simpa [By] using this

theorem Rd.keep {w w' : World} {S : Nat → Prop} {v : Value} {bs : List Int} (h : Rd w v bs) (f : Fr S w w') (hS : ∀ b off len cap, v = .slice (some ⟨b, off, none⟩) len cap → ¬ S b) : Rd w' v bs := by
  rcases h with h | ⟨b, off, cap, rfl, h1, h2, h3, h4⟩
  · exact .inl h
  · refine .inr ⟨b, off, cap, rfl, h1, h2, Nat.lt_of_lt_of_le h3 f.size, fun i hi => ?_⟩
    rw [f.cell (a := ⟨b, off + i, none⟩) h3 (hS b off _ cap rfl)]
    exact h4 i hi
theorem Rd.below {w w' : World} {v : Value} {bs : List Int} (h : Rd w v bs) (f : Below w.heap.size w w') : Rd w' v bs :=
  h.keep (Fr.of_below (S := fun _ => False) f) (by simp)

theorem addr_add_block (a : Addr) (j : Nat) : (a.add j).block = a.block := by unfold Addr.add; split <;> rfl

set_option maxRecDepth 100000 in
set_option maxHeartbeats 400000 in
theorem clone_nil (w : World) :
    Calls Tryz.prog 80 #[.slice none 0 0] w fun e w' => e = .returned (.slice none 0 0) ∧ w = w' := by
  have hnil := fun (a : Option Addr) (n c : Nat) (w : World) => Lib.run_eql_slice_nil (P := Tryz.prog) w 27 5 a n c 0 0 Tryz.underlying27
  go_enter Tryz.func80, Tryz.ntmps80
  go_wp2
  go_ret
  exact ⟨rfl, rfl⟩

set_option maxRecDepth 100000 in
set_option maxHeartbeats 400000 in
theorem clone_some (a : Addr) (n cap : Nat) (news : List Value) (w : World) (hl : news.length = n) (hnews : ∀ j u, news[j]? = some u → w.cell? (a.add j) = some u) (h1 : ∀ u ∈ news, u.oneCell' = true) (hn : n ≤ 140737488355328) (ha : a.block < w.heap.size) :
    Calls Tryz.prog 80 #[.slice (some a) n cap] w fun e w' => ∃ v', e = .returned v' ∧ w'.ownsRow w.heap.size 5 1 v' n news ∧ Below w.heap.size w w' := by
  have hnil := fun (a : Option Addr) (n c : Nat) (w : World) => Lib.run_eql_slice_nil (P := Tryz.prog) w 27 5 a n c 0 0 Tryz.underlying27
  obtain ⟨i0, hi0, hz0, hz1, hz2⟩ := info_parts Tryz.info5
  have HN : Hid (∀ j u, news[j]? = some u → (w.alloc (.cells #[] 5)).cell? (a.add j) = some u) := fun j u hj =>
    (World.cell?_of_block (w := w) (Below.heap_alloc w _ _ (by rw [addr_add_block]; exact ha))).trans (hnews j u hj)
  have H1 := hide h1
  have HL := hide hl
  clear hnews h1 hl ha
  go_enter Tryz.func80, Tryz.ntmps80
  go_wp2_with (at_builtin; refine wpList_append_own_at _ rfl (.tmp 5) (.tmp 6) 27 rfl w.heap.size 5 i0 (.int .u8 0) 1 1 Tryz.underlying27 hi0 hz0 hz1 hz2 rfl (by omega) (.slice (some ⟨w.heap.size, 0, none⟩) 0 0) 0 [] rfl (World.ownsRow_made w #[] 0 (Nat.le_refl _) (by unfold maxLen; omega) rfl) a n cap news rfl (by rw [unhide HL]; omega) (unhide HN) (unhide H1) (by unfold maxLen; omega) (by omega) (by simp) ?_)
  intro v' w1 ho hg _ _
  go_wp2
  go_ret
  refine ⟨v', rfl, by simpa using ho, ?_⟩
  exact ((Below.refl _ _).alloc (Nat.le_refl _) _).grown hg (by simp) (by intro k hk; simp [Value.ownBlock] at hk; omega)

end Go.Proofs.YtlogmdldjmkkjaaGreatDoor
