/-
  Done: a copy of what a writer holds.
-/
import Derived.Test.YtaldacjeeccbhaaCalls
import Derived.Maps.AppendAt
import Derived.Lib.AppendStr
namespace Go.Proofs.Ytaldacjeeccbhaa
open Go.RowKit

theorem addr_add0 (g i : Nat) : (⟨g, 0, none⟩ : Addr).add i = ⟨g, i, none⟩ := by unfold Addr.add; split <;> simp_all

/-- The slice v reads as the bytes bs. -/
def Rd (w : World) (v : Value) (bs : List Int) : Prop :=
  (v = .slice none 0 0 ∧ bs = []) ∨ ∃ b off cap, v = .slice (some ⟨b, off, none⟩) bs.length cap ∧ bs.length ≤ cap ∧ cap ≤ maxLen ∧ b < w.heap.size ∧ ∀ i, i < bs.length → w.cell? ⟨b, off + i, none⟩ = some (.int .u8 (bs.getD i 0))

theorem Rd.of_own {w : World} {base : Nat} {v : Value} {bs : List Int} (h : w.ownsRow base 5 1 v bs.length (bs.map By)) : Rd w v bs := by
  have hl := h.lt
  have hcs : ∀ g, v.ownBlock = some g → _ := fun g => @World.ownsRow.cells w base 5 1 v bs.length (bs.map By) h g
  rcases h.2 with ⟨rfl, h0⟩ | ⟨g, cap, cur, rfl, hb, hg, hn, hc, hs, ht⟩
  · exact .inl ⟨rfl, List.eq_nil_of_length_eq_zero h0⟩
  · refine .inr ⟨g, 0, cap, rfl, hn, hc, (hl g rfl).2, fun i hi => ?_⟩
    have := hcs g rfl i (By (bs.getD i 0)) (by simp [List.getD, hi])
    rw [addr_add0] at this
    simpa [By] using this

theorem Rd.keep {w w' : World} {S : Nat → Prop} {v : Value} {bs : List Int} (h : Rd w v bs) (f : Fr S w w') (hS : ∀ b off len cap, v = .slice (some ⟨b, off, none⟩) len cap → ¬ S b) : Rd w' v bs := by
  rcases h with h | ⟨b, off, cap, rfl, h1, h2, h3, h4⟩
  · exact .inl h
  · refine .inr ⟨b, off, cap, rfl, h1, h2, Nat.lt_of_lt_of_le h3 f.size, fun i hi => ?_⟩
    rw [f.cell (a := ⟨b, off + i, none⟩) h3 (hS b off _ cap rfl)]
    exact h4 i hi
theorem Rd.below {w w' : World} {v : Value} {bs : List Int} (h : Rd w v bs) (f : Below w.heap.size w w') : Rd w' v bs :=
  h.keep (Fr.of_below (S := fun _ => False) f) (by simp)

theorem addr_add_block (a : Addr) (j : Nat) : (a.add j).block = a.block := by unfold Addr.add; split <;> rfl

set_option maxRecDepth 100000 in
set_option maxHeartbeats 400000 in
theorem clone_nil (w : World) :
    Calls Try.prog 60 #[.slice none 0 0] w fun e w' => e = .returned (.slice none 0 0) ∧ w = w' := by
  have hnil := fun (a : Option Addr) (n c : Nat) (w : World) => Lib.run_eql_slice_nil (P := Try.prog) w 33 5 a n c 0 0 Try.underlying33
  go_enter Try.func60, Try.ntmps60
  go_wp2
  go_ret
  exact ⟨rfl, rfl⟩

set_option maxRecDepth 100000 in
set_option maxHeartbeats 400000 in
theorem clone_some (a : Addr) (n cap : Nat) (news : List Value) (w : World) (hl : news.length = n) (hnews : ∀ j u, news[j]? = some u → w.cell? (a.add j) = some u) (h1 : ∀ u ∈ news, u.oneCell' = true) (hn : n ≤ 140737488355328) (ha : a.block < w.heap.size) :
    Calls Try.prog 60 #[.slice (some a) n cap] w fun e w' => ∃ v', e = .returned v' ∧ w'.ownsRow w.heap.size 5 1 v' n news ∧ Below w.heap.size w w' := by
  have hnil := fun (a : Option Addr) (n c : Nat) (w : World) => Lib.run_eql_slice_nil (P := Try.prog) w 33 5 a n c 0 0 Try.underlying33
  obtain ⟨i0, hi0, hz0, hz1, hz2⟩ := info_parts Try.info5
  have HN : Hid (∀ j u, news[j]? = some u → (w.alloc (.cells #[] 5)).cell? (a.add j) = some u) := fun j u hj =>
    (World.cell?_of_block (w := w) (Below.heap_alloc w _ _ (by rw [addr_add_block]; exact ha))).trans (hnews j u hj)
  have H1 := hide h1
  have HL := hide hl
  clear hnews h1 hl ha
  go_enter Try.func60, Try.ntmps60
  go_wp2_with (at_builtin; refine wpList_append_own_at _ rfl (.tmp 5) (.tmp 6) 33 rfl w.heap.size 5 i0 (.int .u8 0) 1 1 Try.underlying33 hi0 hz0 hz1 hz2 rfl (by omega) (.slice (some ⟨w.heap.size, 0, none⟩) 0 0) 0 [] rfl (World.ownsRow_made w #[] 0 (Nat.le_refl _) (by unfold maxLen; omega) rfl) a n cap news rfl (by rw [unhide HL]; omega) (unhide HN) (unhide H1) (by unfold maxLen; omega) (by omega) (by simp) ?_)
  intro v' w1 ho hg _ _
  go_wp2
  go_ret
  refine ⟨v', rfl, by simpa using ho, ?_⟩
  exact ((Below.refl _ _).alloc (Nat.le_refl _) _).grown hg (by simp) (by intro k hk; simp [Value.ownBlock] at hk; omega)

set_option maxRecDepth 100000 in
set_option maxHeartbeats 400000 in
/-- Done, of a writer: what it holds, in memory of its own. -/
theorem done_any (p : Nat) (v : Value) (bs : List Int) (w : World) (h : Wtr w p v bs) (hb : bs.length ≤ 140737488355328) :
    Calls Try.prog 43 #[.pointer (some ⟨p, 0, none⟩)] w fun e w' => ∃ v', e = .returned v' ∧ w'.ownsRow w.heap.size 5 1 v' bs.length (bs.map By) ∧ Below w.heap.size w w' := by
  have hc := h.cell
  have hlt := h.row_lt
  rcases h.own.2 with ⟨rfl, h0⟩ | ⟨g, cap, cur, rfl, _, hg, hn, hcm, hs, ht⟩
  · have hbs : bs = [] := List.eq_nil_of_length_eq_zero h0
    subst hbs
    clear h hlt
    go_enter Try.func43, Try.ntmps43
    go_wp2_with (go_at_call 60; refine (clone_nil _).mono ?_; rintro e w' ⟨rfl, rfl⟩)
    go_ret
    exact ⟨_, rfl, World.ownsRow_nil _ _ _ _, Below.refl _ _⟩
  · have hcl := hide (clone_some ⟨g, 0, none⟩ bs.length cap (bs.map By) w (by simp) (@World.ownsRow.cells w 0 5 1 _ bs.length (bs.map By) h.own g rfl) (by simp [By, Value.oneCell']) hb (hlt g rfl))
    clear h hlt hg hs ht hcm hn
    go_enter Try.func43, Try.ntmps43
    go_wp2_with fail
    refine (unhide hcl).mono ?_
    rintro e w' ⟨v', rfl, ho, hb⟩
    go_wp2
    go_ret
    exact ⟨v', rfl, ho, hb⟩
end Go.Proofs.Ytaldacjeeccbhaa
