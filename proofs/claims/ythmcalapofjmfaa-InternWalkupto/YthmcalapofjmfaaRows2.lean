/-
  New rows of texts: CopyTexts, Cut, Add, From, At as the document has them.
-/
import Derived.Test.YthmcalapofjmfaaFrom
namespace Go.Proofs.Ythmcalapofjmfaa
open Go.RowKit Go.Maps
set_option linter.unusedVariables false

/-- Behind w a new row of these texts was made, nothing of w has turned. -/
def Nw (w : World) (u : Value) (rs : List ByteArray) (w' : World) : Prop := w'.ownsRow w.heap.size 9 1 u rs.length (rs.map Value.string) ∧ Below w.heap.size w w'
theorem Nw.nil (w : World) : Nw w (.slice none 0 0) [] w := ⟨World.ownsRow_nil _ _ _ _, Below.refl _ _⟩
theorem Nw.rt {w w' : World} {u : Value} {rs : List ByteArray} (h : Nw w u rs w') : Rt w' u rs := Rt.own h.1
theorem Nw.more {w w' w2 : World} {u u2 : Value} {rs : List ByteArray} {s : ByteArray} {o : Obj} (h : Nw w u rs w') (hown : w2.ownsRow w.heap.size 9 1 u2 (rs.length + 1) (rs.map Value.string ++ [.string s])) (hg : (w'.alloc o).grownBy w2 u.ownBlock) : Nw w u2 (rs ++ [s]) w2 := by
  refine ⟨?_, (h.2.alloc h.2.size o).grown hg (Nat.le_trans h.2.size (by simp)) (fun k hk => (h.1.lt k hk).1)⟩
  rw [List.length_append, List.map_append]
  exact hown
theorem Nw.moreN {w w' w2 : World} {u u2 : Value} {rs : List ByteArray} {s : ByteArray} {o : Obj} {n : Nat} (h : Nw w u rs w') (en : rs.length = n) (hown : w2.ownsRow w.heap.size 9 1 u2 (n + 1) (rs.map Value.string ++ [.string s])) (hg : (w'.alloc o).grownBy w2 u.ownBlock) : Nw w u2 (rs ++ [s]) w2 := by
  subst en
  exact h.more hown hg

set_option maxRecDepth 100000 in
set_option maxHeartbeats 800000 in
theorem copy_any {w : World} {v : Value} {l : List ByteArray} (h : Rt w v l) (hM : l.length ≤ 11999999999999) : Calls Try.prog 12 #[v] w fun e w' => ∃ u, e = .returned u ∧ Nw w u l w' := by
  obtain ⟨a, cap, rfl, h1, h2, h3⟩ := h
  obtain ⟨n, hn⟩ : ∃ n, Hid (l.length = n) := ⟨_, rfl⟩
  rw [unhide hn] at h1 hM ⊢
  unfold maxLen at h2
  have H := hide h3
  clear h3
  obtain ⟨i0, hi0, hz0, hz1, hz2⟩ := info_parts Try.info9
  go_enter Try.func12, Try.ntmps12
  go_wp2
  go_loopg [3, 4] n (fun g t3 t4 wr => ∃ j : Nat, Hid (j + g = n) ∧ t4 = .int .i64 (j : Int) ∧ Hid (Nw w t3 (l.take j) wr))
  case atStart => exact ⟨0, by unfold Hid; omega, rfl, Nw.nil w⟩
  case round =>
    obtain ⟨j, hj, rfl, HN⟩ := hrel
    by_cases hlt : j < n
    · obtain ⟨b, off, rfl, hb, hcl⟩ := unhide H j (by rw [unhide hn]; exact hlt)
      have c1 : wr.cell? ⟨b, off + j, none⟩ = some (.string (tx l j)) := by rw [(unhide HN).2.cell (p := ⟨b, off + j, none⟩) hb, hcl]
      have htk := hide (take_tx (l := l) (j := j) (by rw [unhide hn]; exact hlt))
      have hlen : Hid ((l.take j).length = j) := by unfold Hid; rw [List.length_take]; have := unhide hn; omega
      obtain ⟨s, es⟩ : ∃ s, s = tx l j := ⟨_, rfl⟩
      rw [← es] at c1 htk
      have hown : Hid (wr.ownsRow w.heap.size 9 1 u3 j ((l.take j).map Value.string)) := by have := (unhide HN).1; rw [unhide hlen] at this; exact this
      have hbs : Hid (w.heap.size ≤ wr.heap.size) := (unhide HN).2.size
      have i1 : (0 : Int) ≤ (j : Int) := by omega
      have i2 : (j : Int) < (n : Int) := by omega
      clear es hcl
      go_wp2_with (first | (at_builtin; refine wpList_app rfl _ _ rfl w.heap.size _ j _ rfl ((unhide hown).alloc _) ⟨wr.heap.size, 0, none⟩ 1 s rfl (cell_one_new _ _ _) (by omega) (by have := unhide hbs; simp; omega) ?_; intro v' w1 hown' hgrow hloc hnil; have HN1 : Hid (Nw w v' (l.take (j + 1)) w1) := by { rw [unhide htk]; exact (unhide HN).moreN (unhide hlen) hown' hgrow }; clear hown' hgrow hnil hloc) | fail)
      go_roundg (gk - 1)
      case measure => have := unhide hj; omega
      case rel => exact ⟨j + 1, by have := unhide hj; unfold Hid; omega, by go_num, HN1⟩
    · have HN2 : Hid (Nw w u3 l wr) := by have := unhide HN; rw [List.take_of_length_le (by rw [unhide hn]; omega)] at this; exact this
      go_wp2
      go_ret
      exact ⟨_, rfl, unhide HN2⟩
end Go.Proofs.Ythmcalapofjmfaa
