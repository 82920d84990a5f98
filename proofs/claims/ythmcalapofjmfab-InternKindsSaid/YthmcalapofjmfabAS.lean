/-
  Add (kind S).
-/
import Derived.Test.YthmcalapofjmfabOS
import Derived.Deep.RegionHeld3
namespace Go.Proofs.Ythmcalapofjmfab
open Go.RowKit Go.Maps
set_option linter.unusedVariables false

theorem Try.infoKS : (Try.prog.info? 9).map (fun i => (i.zero, i.size, i.bytes)) = some (some (.string ⟨#[]⟩), 1, 16) := by kernel_rfl
theorem own_sliceS {w : World} {base sz : Nat} {e : TypeId} {v : Value} {n : Nat} {xs : List Value} (h : w.ownsRow base e sz v (n + 1) xs) : ∃ g cap, v = .slice (some ⟨g, 0, none⟩) (n + 1) cap := by
  rcases h.2 with ⟨_, h0⟩ | ⟨g, cap, cur, e, _⟩
  · omega
  · exact ⟨g, cap, e⟩
theorem IStep.afterS {p b : Nat} {w w1 w2 : World} {v v' : Value} (hB : Below w.heap.size w w1) (h : IStep p b w1 v w2 v') : IStep p b w v w2 v' :=
  ⟨(Fr.of_below hB).trans h.fr, by
    rcases h.row with q | q
    · exact .inl q
    · exact .inr fun k hk => Nat.le_trans hB.size (q k hk)⟩
theorem IxS.added {w : World} {p b : Nat} {v : Value} {ks : List Nat} (h : IxS w p b v ks) {k : Nat} (hn : idx ks k = none) (hk : k < 7)
    {w1 : World} {v' : Value} {o : Obj} {n : Nat} (en : Hid (ks.length = n)) (hown : w1.ownsRow 0 9 1 v' (n + 1) (ks.flatMap clS ++ clS k)) (hg : (w.alloc o).grownBy w1 v.ownBlock) (hat : v'.ownBlock = v.ownBlock ∨ v'.ownBlock = some (w.alloc o).heap.size) :
    w1.cell? ⟨p, 0, none⟩ = some v ∧ w1.frozen? ⟨p, 0, none⟩ = false ∧ (w1.setCell ⟨p, 0, none⟩ v').cell? ⟨p, 1, none⟩ = some (.map (some b)) ∧
    ∀ m, ∃ w2, (Instr.mapUpdate 52 (.map (some b)) (valS k) (.int .i64 (n : Int))).run Try.prog ((w1.setCell ⟨p, 0, none⟩ v').drewN m) = .ok () w2 ∧ Hid (IxS w2 p b v' (ks ++ [k]) ∧ IStep p b w v w2 v') := by
  obtain rfl := unhide en
  have hsm := h.small
  have hz : (w.alloc o).heap.size = w.heap.size + 1 := by simp
  rw [hz] at hat
  have hp := h.lt
  have hb := h.blt
  have fr : Fr (fun k => v.ownBlock = some k) w w1 := ((Fr.refl _ w).alloc o).grown hg (fun k e => .inr e)
  have k0 : w1.cell? ⟨p, 0, none⟩ = some v := (fr.cell (a := ⟨p, 0, none⟩) hp h.vp).trans h.c0
  have kf : w1.frozen? ⟨p, 0, none⟩ = false := (fr.frozen (a := ⟨p, 0, none⟩) hp h.vp).trans h.f0
  have k1 : w1.cell? ⟨p, 1, none⟩ = some (.map (some b)) := (fr.cell (a := ⟨p, 1, none⟩) hp h.vp).trans h.c1
  have kb : w1.heap[b]? = w.heap[b]? := fr.block b hb h.vb
  have s1 : (w1.setCell ⟨p, 0, none⟩ v').cell? ⟨p, 1, none⟩ = some (.map (some b)) := by rw [World.cell?_setCell_other w1 ⟨p, 0, none⟩ ⟨p, 1, none⟩ v' (by simp)]; exact k1
  refine ⟨k0, kf, s1, fun m => ?_⟩
  have sb : ((w1.setCell ⟨p, 0, none⟩ v').drewN m).heap[b]? = w.heap[b]? := by
    show (w1.setCell ⟨p, 0, none⟩ v').heap[b]? = _
    rw [Below.heap_setCell _ _ _ _ (fun e => h.pb e.symm)]; exact kb
  obtain ⟨w2, hrun, hM, hg2⟩ := (h.mp.keep sb).put k hk hn ks.length (by omega) (by unfold maxLen; omega)
  have vp' : v'.ownBlock ≠ some p := by
    rcases hat with q | q
    · rw [q]; exact h.vp
    · rw [q]; simp; omega
  have vb' : v'.ownBlock ≠ some b := by
    rcases hat with q | q
    · rw [q]; exact h.vb
    · rw [q]; simp; omega
  have hsz := fr.size
  have far : ∀ k, k < w1.heap.size → k ≠ b → w2.heap[k]? = (w1.setCell ⟨p, 0, none⟩ v').heap[k]? := fun k hk e => hg2.block k (by show k < (w1.setCell ⟨p, 0, none⟩ v').heap.size; simp [World.setCell]; omega) (by simpa using e)
  refine ⟨w2, hrun, ⟨?_, ?_, ?_, ?_, ?_, h.pb, vp', vb', ?_, ?_⟩, ?_, ?_⟩
  · rw [World.cell?_of_block (far p (by omega) h.pb)]
    exact World.cell?_setCell_same w1 _ _ k0
  · rw [World.cell?_of_block (far p (by omega) h.pb)]
    exact s1
  · rw [World.frozen?_of_block (far p (by omega) h.pb), World.frozen?_setCell]
    exact kf
  · have := hown
    rw [List.flatMap_append, List.length_append]
    refine own_keep (by simpa using this) (fun g hg3 => ?_)
    have hgl := (hown.lt g hg3).2
    rw [far g hgl (fun e => vb' (e ▸ hg3)), Below.heap_setCell _ _ _ _ (fun e => vp' (by rw [hg3]; exact congrArg some e))]
  · rw [List.length_append]
    refine hM.congr (fun t => ?_)
    rw [idx_append]
    by_cases e : t = k
    · subst e
      rw [if_pos rfl, hn]
      simp
    · rw [if_neg e]
      cases e2 : idx ks t with
      | some i => rfl
      | none =>
        have e3 : ¬ k = t := fun q => e q.symm
        simp [e3]
  · have := ins_nodup (s := k) h.nd
    rwa [(ins_new hn).1] at this
  · intro t ht
    rcases List.mem_append.1 ht with q | q
    · exact h.ok t q
    · simp at q; rw [q]; exact hk
  · have f2 : Fr (Foot p b v) w w1 := fr.mono (fun k _ e => .inr (.inr e))
    have f3 := f2.setCell ⟨p, 0, none⟩ (.inr (.inl rfl)) v'
    have f4 : Fr (Foot p b v) w ((w1.setCell ⟨p, 0, none⟩ v').drewN m) := f3.trans (Fr.drewN m)
    exact f4.grown hg2 (fun k e => .inr (.inr (.inl (by simpa using e.symm))))
  · rcases hat with q | q
    · exact .inl q
    · right
      intro k hk
      rw [q] at hk
      simp at hk
      omega

set_option maxRecDepth 100000 in
set_option maxHeartbeats 1600000 in
theorem addS_any {w : World} {p b : Nat} {v : Value} {ks : List Nat} (h : IxS w p b v ks) (k : Nat) (hk : k < 7) : Calls Try.prog 19 #[.pointer (some ⟨p, 0, none⟩), valS k] w fun e w' =>
    e = .returned (.int .i64 ((num ks k : Nat) : Int)) ∧ ∃ v', IxS w' p b v' (ins ks k) ∧ IStep p b w v w' v' := by
  have hlook := h.mp.look k hk
  have hc1 := h.c1
  have hsm := h.small
  obtain ⟨s, ev0, ecl⟩ := valS_form k
  have EV := hide ev0
  have ECL := hide ecl
  rw [ev0] at hlook ⊢
  clear ev0 ecl
  cases hi : idx ks k with
  | some i =>
    rw [hi] at hlook
    simp only [Option.getD_some, Option.isSome_some] at hlook
    obtain ⟨e1, e2⟩ := ins_old hi
    rw [e1, e2]
    have H := hide h
    clear h hi e1 e2
    go_enter Try.func19, Try.ntmps19
    go_wp2
    go_ret
    exact ⟨rfl, v, unhide H, IStep.refl _ _ _ _⟩
  | none =>
    rw [hi] at hlook
    simp only [Option.getD_none, Option.isSome_none] at hlook
    obtain ⟨e1, e2⟩ := ins_new hi
    rw [e1, e2]
    obtain ⟨a, cap, ev, _⟩ := h.shape
    have hc0 := h.c0
    have hp := h.lt
    have hf0 := h.f0
    obtain ⟨n, en⟩ : ∃ n, Hid (ks.length = n) := ⟨_, rfl⟩
    have en2 : ks.length = n := unhide en
    rw [en2] at ev hsm ⊢
    have hown : Hid (w.ownsRow 0 9 1 v n (ks.flatMap clS)) := by rw [← unhide en]; exact h.own
    rw [ev] at hown hc0
    rw [ev] at h
    have H := hide h
    have HI := hide hi
    obtain ⟨i0, hi0, hz0, hz1, hz2⟩ := info_parts Try.infoKS
    rw [ev]
    obtain ⟨X, hX⟩ : ∃ X, Hid (ks.flatMap clS = X) := ⟨_, rfl⟩
    rw [unhide hX] at hown
    clear h hi e1 e2 en2 ev hlook
    have hlook := (unhide H).mp.look k hk
    rw [unhide HI, unhide EV] at hlook
    simp only [Option.getD_none, Option.isSome_none] at hlook
    go_enter Try.func19, Try.ntmps19
    go_wp2_with (first | (at_builtin; refine wpList_append_own_at _ rfl _ _ 53 rfl 0 9 i0 _ 1 16 Try.underlying53 hi0 hz0 hz1 hz2 rfl (by decide) (.slice a n cap) n X rfl ((unhide hown).alloc _) ⟨w.heap.size, 0, none⟩ 1 1 [.string s] rfl rfl (cell_one_new _ _ _) (by simp [Value.oneCell']) (by unfold maxLen; omega) (by omega) (Nat.zero_le _) ?_; intro v' w1 hown' hgrow hnil hloc; obtain ⟨gg, cap', rfl⟩ := own_sliceS hown'; obtain ⟨k0, kf, k1, hall⟩ := (unhide H).added (unhide HI) hk en (by rw [unhide hX, unhide ECL]; exact hown') hgrow hloc; obtain ⟨w2, hrun, hh⟩ := hall 0; rw [unhide EV] at hrun; clear hown' hgrow hnil hloc hall; have hrun : (Instr.mapUpdate 52 (.map (some b)) (.string s) (.int .i64 (n : Int))).run Try.prog (w1.setCell ⟨p, 0, none⟩ (.slice (some ⟨gg, 0, none⟩) (n + 1) cap')) = .ok () w2 := hrun) | go_in)
    go_ret
    exact ⟨rfl, _, (unhide hh).1, (unhide hh).2⟩
end Go.Proofs.Ythmcalapofjmfab
