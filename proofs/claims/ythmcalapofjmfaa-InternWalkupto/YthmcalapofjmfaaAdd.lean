/-
  Add.
-/
import Derived.Test.YthmcalapofjmfaaOps
import Derived.Test.YthmcalapofjmfaaApp
namespace Go.Proofs.Ythmcalapofjmfaa
open Go.RowKit Go.Maps
set_option linter.unusedVariables false


theorem own_slice {w : World} {base : Nat} {e : TypeId} {v : Value} {n : Nat} {xs : List Value} (h : w.ownsRow base e 1 v (n + 1) xs) : ∃ g cap, v = .slice (some ⟨g, 0, none⟩) (n + 1) cap := by
  rcases h.2 with ⟨_, h0⟩ | ⟨g, cap, cur, e, _⟩
  · omega
  · exact ⟨g, cap, e⟩

theorem Ix.added {w : World} {p b : Nat} {v : Value} {rs : List ByteArray} (h : Ix w p b v rs) {s : ByteArray} (hn : idx rs s = none) (hs : s.size ≤ maxLen) (hl : rs.length < 11999999999999)
    {w1 : World} {v' : Value} {o : Obj} {n : Nat} (en : Hid (rs.length = n)) (hown : w1.ownsRow 0 9 1 v' (n + 1) (rs.map Value.string ++ [.string s])) (hg : (w.alloc o).grownBy w1 v.ownBlock) (hat : v'.ownBlock = v.ownBlock ∨ v'.ownBlock = some (w.alloc o).heap.size) :
    w1.cell? ⟨p, 0, none⟩ = some v ∧ w1.frozen? ⟨p, 0, none⟩ = false ∧ (w1.setCell ⟨p, 0, none⟩ v').cell? ⟨p, 1, none⟩ = some (.map (some b)) ∧
    ∃ w2, (Instr.mapUpdate 73 (.map (some b)) (.string s) (.int .i64 (n : Int))).run Try.prog (w1.setCell ⟨p, 0, none⟩ v') = .ok () w2 ∧ Hid (Ix w2 p b v' (rs ++ [s]) ∧ IStep p b w v w2 v') := by
  obtain rfl := unhide en
  have hz : (w.alloc o).heap.size = w.heap.size + 1 := by simp
  rw [hz] at hat
  have hp := h.lt
  have hb := h.blt
  have fr : Fr (fun k => v.ownBlock = some k) w w1 := ((Fr.refl _ w).alloc o).grown hg (fun k e => .inr e)
  have k0 : w1.cell? ⟨p, 0, none⟩ = some v := (fr.cell (a := ⟨p, 0, none⟩) hp h.vp).trans h.c0
  have kf : w1.frozen? ⟨p, 0, none⟩ = false := (fr.frozen (a := ⟨p, 0, none⟩) hp h.vp).trans h.f0
  have k1 : w1.cell? ⟨p, 1, none⟩ = some (.map (some b)) := (fr.cell (a := ⟨p, 1, none⟩) hp h.vp).trans h.c1
  have kb : w1.heap[b]? = w.heap[b]? := fr.block b hb h.vb
  have s1 : (w1.setCell ⟨p, 0, none⟩ v').cell? ⟨p, 1, none⟩ = some (.map (some b)) := by rw [World.cell?_setCell_other w1 ⟨p, 0, none⟩ ⟨p, 1, none⟩ v' (by simp)]; exact k1
  have sb : (w1.setCell ⟨p, 0, none⟩ v').heap[b]? = w.heap[b]? := by rw [Below.heap_setCell _ _ _ _ (fun e => h.pb e.symm)]; exact kb
  obtain ⟨w2, hrun, hM, hg2⟩ := (h.mp.keep sb).put s hs hn rs.length (by omega) (by unfold maxLen; omega)
  have vp' : v'.ownBlock ≠ some p := by
    rcases hat with q | q
    · rw [q]; exact h.vp
    · rw [q]; simp; omega
  have vb' : v'.ownBlock ≠ some b := by
    rcases hat with q | q
    · rw [q]; exact h.vb
    · rw [q]; simp; omega
  have hsz := fr.size
  have far : ∀ k, k < w1.heap.size → k ≠ b → w2.heap[k]? = (w1.setCell ⟨p, 0, none⟩ v').heap[k]? := fun k hk e => hg2.block k (by simp [World.setCell]; omega) (by simpa using e)
  refine ⟨k0, kf, s1, w2, hrun, ⟨?_, ?_, ?_, ?_, ?_, h.pb, vp', vb', ?_, ?_⟩, ?_, ?_⟩
  · rw [World.cell?_of_block (far p (by omega) h.pb)]
    exact World.cell?_setCell_same w1 _ _ k0
  · rw [World.cell?_of_block (far p (by omega) h.pb)]
    exact s1
  · rw [World.frozen?_of_block (far p (by omega) h.pb), World.frozen?_setCell]
    exact kf
  · have := hown
    rw [List.map_append, List.length_append]
    refine own_keep this (fun g hg3 => ?_)
    have hgl := (hown.lt g hg3).2
    rw [far g hgl (fun e => vb' (e ▸ hg3)), Below.heap_setCell _ _ _ _ (fun e => vp' (by rw [hg3]; exact congrArg some e))]
  · rw [List.length_append]
    refine hM.congr (fun t => ?_)
    rw [idx_append]
    by_cases e : t = s
    · subst e
      rw [if_pos rfl, hn]
      simp
    · rw [if_neg e]
      cases e2 : idx rs t with
      | some i => rfl
      | none =>
        have e3 : ¬ s = t := fun q => e q.symm
        simp [e3]
  · have := ins_nodup (s := s) h.nd
    rwa [(ins_new hn).1] at this
  · intro t ht
    rcases List.mem_append.1 ht with q | q
    · exact h.ok t q
    · simp at q; rw [q]; exact hs
  · have f2 : Fr (Foot p b v) w w1 := fr.mono (fun k _ e => .inr (.inr e))
    exact (f2.setCell ⟨p, 0, none⟩ (.inr (.inl rfl)) v').grown hg2 (fun k e => .inr (.inr (.inl (by simpa using e.symm))))
  · rcases hat with q | q
    · exact .inl q
    · right
      intro k hk
      rw [q] at hk
      simp at hk
      omega

set_option maxRecDepth 100000 in
set_option maxHeartbeats 1600000 in
theorem add_any {w : World} {p b : Nat} {v : Value} {rs : List ByteArray} (h : Ix w p b v rs) (s : ByteArray) (hs : s.size ≤ maxLen) (hl : rs.length < 11999999999999) : Calls Try.prog 20 #[.pointer (some ⟨p, 0, none⟩), .string s] w fun e w' =>
    e = .returned (.int .i64 ((num rs s : Nat) : Int)) ∧ ∃ v', Ix w' p b v' (ins rs s) ∧ IStep p b w v w' v' := by
  have hlook := h.mp.look s hs
  have hc1 := h.c1
  cases hi : idx rs s with
  | some i =>
    rw [hi] at hlook
    simp only [Option.getD_some, Option.isSome_some] at hlook
    obtain ⟨e1, e2⟩ := ins_old hi
    rw [e1, e2]
    have H := hide h
    clear h hi e1 e2
    go_enter Try.func20, Try.ntmps20
    go_wp2
    go_ret
    exact ⟨rfl, v, unhide H, IStep.refl _ _ _ _⟩
  | none =>
    rw [hi] at hlook
    simp only [Option.getD_none, Option.isSome_none] at hlook
    obtain ⟨e1, e2⟩ := ins_new hi
    rw [e1, e2]
    obtain ⟨a, cap, ev⟩ := h.shape
    have hc0 := h.c0
    have hp := h.lt
    have hf0 := h.f0
    obtain ⟨n, en⟩ : ∃ n, Hid (rs.length = n) := ⟨_, rfl⟩
    have en2 : rs.length = n := unhide en
    rw [en2] at ev hl ⊢
    have hown : Hid (w.ownsRow 0 9 1 v n (rs.map Value.string)) := by rw [← unhide en]; exact h.own
    rw [ev] at hown hc0
    have hl2 : Hid (rs.length < 11999999999999) := by rw [unhide en]; exact hl
    rw [ev] at h
    have H := hide h
    have HI := hide hi
    obtain ⟨i0, hi0, hz0, hz1, hz2⟩ := info_parts Try.info9
    rw [ev]
    clear h hi e1 e2 en2 ev hlook
    have hlook := (unhide H).mp.look s hs
    rw [unhide HI] at hlook
    simp only [Option.getD_none, Option.isSome_none] at hlook
    go_enter Try.func20, Try.ntmps20
    go_wp2_with (first | (at_builtin; refine wpList_app rfl _ _ rfl 0 (.slice a n cap) n (rs.map Value.string) rfl ((unhide hown).alloc _) ⟨w.heap.size, 0, none⟩ 1 s rfl (cell_one_new _ _ _) (by omega) (Nat.zero_le _) ?_; intro v' w1 hown' hgrow hloc hnil; obtain ⟨gg, cap', rfl⟩ := own_slice hown'; obtain ⟨k0, kf, k1, w2, hrun, hh⟩ := (unhide H).added (unhide HI) hs (unhide hl2) en hown' hgrow hloc; clear hown' hgrow hnil hloc) | go_in)
    go_ret
    exact ⟨rfl, _, (unhide hh).1, (unhide hh).2⟩
end Go.Proofs.Ythmcalapofjmfaa
