/-
  Add (kind P).
-/
import Derived.Test.YthmcalapofjmfabOP
import Derived.Deep.RegionHeld3
namespace Go.Proofs.Ythmcalapofjmfab
open Go.RowKit Go.Maps
set_option linter.unusedVariables false

theorem Try.infoKP : (Try.prog.info? 28).map (fun i => (i.zero, i.size, i.bytes)) = some (some (.agg #[.int .i64 0, .int .i64 0]), 2, 16) := by kernel_rfl
theorem own_sliceP {w : World} {base sz : Nat} {e : TypeId} {v : Value} {n : Nat} {xs : List Value} (h : w.ownsRow base e sz v (n + 1) xs) : ∃ g cap, v = .slice (some ⟨g, 0, none⟩) (n + 1) cap := by
  rcases h.2 with ⟨_, h0⟩ | ⟨g, cap, cur, e, _⟩
  · omega
  · exact ⟨g, cap, e⟩
theorem IStep.afterP {p b : Nat} {w w1 w2 : World} {v v' : Value} (hB : Below w.heap.size w w1) (h : IStep p b w1 v w2 v') : IStep p b w v w2 v' :=
  ⟨(Fr.of_below hB).trans h.fr, by
    rcases h.row with q | q
    · exact .inl q
    · exact .inr fun k hk => Nat.le_trans hB.size (q k hk)⟩
theorem IxP.added {w : World} {p b : Nat} {v : Value} {ks : List Nat} (h : IxP w p b v ks) {k : Nat} (hn : idx ks k = none) (hk : k < 4)
    {w1 : World} {v' : Value} {o : Obj} {n : Nat} (en : Hid (ks.length = n)) (hown : w1.ownsRow 0 28 2 v' (n + 1) (ks.flatMap clP ++ clP k)) (hg : (w.alloc o).grownBy w1 v.ownBlock) (hat : v'.ownBlock = v.ownBlock ∨ v'.ownBlock = some (w.alloc o).heap.size) :
    w1.cell? ⟨p, 0, none⟩ = some v ∧ w1.frozen? ⟨p, 0, none⟩ = false ∧ (w1.setCell ⟨p, 0, none⟩ v').cell? ⟨p, 1, none⟩ = some (.map (some b)) ∧
    ∀ m, ∃ w2, (Instr.mapUpdate 56 (.map (some b)) (valP k) (.int .i64 (n : Int))).run Try.prog ((w1.setCell ⟨p, 0, none⟩ v').drewN m) = .ok () w2 ∧ Hid (IxP w2 p b v' (ks ++ [k]) ∧ IStep p b w v w2 v') := by
  obtain rfl := unhide en
  have hsm := h.small
  have hz : (w.alloc o).heap.size = w.heap.size + 1 := by simp
  rw [hz] at hat
  have hp := h.lt
  have hb := h.blt
  have fr : Fr (fun k => v.ownBlock = some k) w w1 := ((Fr.refl _ w).alloc o).grown hg (fun k e => .inr e)
  have k0 : w1.cell? ⟨p, 0, none⟩ = some v := (fr.cell (a := ⟨p, 0, none⟩) hp h.vp).trans h.c0
  have kf : w1.frozen? ⟨p, 0, none⟩ = false := (fr.frozen (a := ⟨p, 0, none⟩) hp h.vp).trans h.f0
  have k1 : w1.cell? ⟨p, 1, none⟩ = some (.map (some b)) := (fr.cell (a := ⟨p, 1, none⟩) hp h.vp).trans h.c1
  have kb : w1.heap[b]? = w.heap[b]? := fr.block b hb h.vb
  have s1 : (w1.setCell ⟨p, 0, none⟩ v').cell? ⟨p, 1, none⟩ = some (.map (some b)) := by rw [World.cell?_setCell_other w1 ⟨p, 0, none⟩ ⟨p, 1, none⟩ v' (by simp)]; exact k1
  refine ⟨k0, kf, s1, fun m => ?_⟩
  have sb : ((w1.setCell ⟨p, 0, none⟩ v').drewN m).heap[b]? = w.heap[b]? := by
    show (w1.setCell ⟨p, 0, none⟩ v').heap[b]? = _
    rw [Below.heap_setCell _ _ _ _ (fun e => h.pb e.symm)]; exact kb
  obtain ⟨w2, hrun, hM, hg2⟩ := (h.mp.keep sb).put k hk hn ks.length (by omega) (by unfold maxLen; omega)
  have vp' : v'.ownBlock ≠ some p := by
    rcases hat with q | q
    · rw [q]; exact h.vp
    · rw [q]; simp; omega
  have vb' : v'.ownBlock ≠ some b := by
    rcases hat with q | q
    · rw [q]; exact h.vb
    · rw [q]; simp; omega
  have hsz := fr.size
  have far : ∀ k, k < w1.heap.size → k ≠ b → w2.heap[k]? = (w1.setCell ⟨p, 0, none⟩ v').heap[k]? := fun k hk e => hg2.block k (by show k < (w1.setCell ⟨p, 0, none⟩ v').heap.size; simp [World.setCell]; omega) (by simpa using e)
  refine ⟨w2, hrun, ⟨?_, ?_, ?_, ?_, ?_, h.pb, vp', vb', ?_, ?_⟩, ?_, ?_⟩
  · rw [World.cell?_of_block (far p (by omega) h.pb)]
    exact World.cell?_setCell_same w1 _ _ k0
  · rw [World.cell?_of_block (far p (by omega) h.pb)]
    exact s1
  · rw [World.frozen?_of_block (far p (by omega) h.pb), World.frozen?_setCell]
    exact kf
  · have := hown
    rw [List.flatMap_append, List.length_append]
    refine own_keep (by simpa using this) (fun g hg3 => ?_)
    have hgl := (hown.lt g hg3).2
    rw [far g hgl (fun e => vb' (e ▸ hg3)), Below.heap_setCell _ _ _ _ (fun e => vp' (by rw [hg3]; exact congrArg some e))]
  · rw [List.length_append]
    refine hM.congr (fun t => ?_)
    rw [idx_append]
    by_cases e : t = k
    · subst e
      rw [if_pos rfl, hn]
      simp
    · rw [if_neg e]
      cases e2 : idx ks t with
      | some i => rfl
      | none =>
        have e3 : ¬ k = t := fun q => e q.symm
        simp [e3]
  · have := ins_nodup (s := k) h.nd
    rwa [(ins_new hn).1] at this
  · intro t ht
    rcases List.mem_append.1 ht with q | q
    · exact h.ok t q
    · simp at q; rw [q]; exact hk
  · have f2 : Fr (Foot p b v) w w1 := fr.mono (fun k _ e => .inr (.inr e))
    have f3 := f2.setCell ⟨p, 0, none⟩ (.inr (.inl rfl)) v'
    have f4 : Fr (Foot p b v) w ((w1.setCell ⟨p, 0, none⟩ v').drewN m) := f3.trans (Fr.drewN m)
    exact f4.grown hg2 (fun k e => .inr (.inr (.inl (by simpa using e.symm))))
  · rcases hat with q | q
    · exact .inl q
    · right
      intro k hk
      rw [q] at hk
      simp at hk
      omega

theorem two_newP (w : World) (u v : Value) (e : TypeId) : ∀ j z, [u, v][j]? = some z → (w.alloc (.cells #[u, v] e)).cell? ((⟨w.heap.size, 0, none⟩ : Addr).add j) = some z := fun j z hz => by
  have hg := heap_alloc_new w (.cells #[u, v] e)
  rw [Go.WideShapes.add_plain]
  have hj : j < 2 := (List.getElem?_eq_some_iff.1 hz).1
  match j, hj with
  | 0, _ => simp only [World.cell?, hg]; simpa using hz
  | 1, _ => simp only [World.cell?, hg]; simpa using hz

theorem step_appP {w : World} {ops : Array Oper} {o : Oper} {a : Act} {K : Act → World → Prop} {Q : Exit → Act → World → Prop} {E : Prop} (hgd : o.guard = none) (s x : Operand)
    (ho : o.op = .call { callee := .builtin .append, args := #[s, x], argTypes := #[57, 57] }) (v : Value) (n : Nat) (xs : List Value) (hs : a.eval s = v) (hown : w.ownsRow 0 28 2 v n xs) (ad : Addr) (c : Nat) (u1 u2 : Value) (hx : a.eval x = .slice (some ad) 1 c)
    (hnews : ∀ j u, [u1, u2][j]? = some u → w.cell? (ad.add j) = some u) (h1 : ∀ u ∈ [u1, u2], u.oneCell' = true) (hN : n ≤ 1000)
    (h : ∀ v' w', w'.ownsRow 0 28 2 v' (n + 1) (xs ++ [u1, u2]) → w.grownBy w' v.ownBlock → (v'.ownBlock = v.ownBlock ∨ v'.ownBlock = some w.heap.size) → K (a.put o.dst v') w') :
    if Region.wanted o (yielded ops a.tmps) = true then Oper.wp Try.prog o a w K Q else E := by
  rw [if_pos (by simp [Region.wanted, hgd])]
  obtain ⟨i0, hi0, hz0, hz1, hz2⟩ := info_parts Try.infoKP
  obtain ⟨v', w', hr, k2, k3, _, k5⟩ := run_append_own_at (P := Try.prog) w 0 57 o.type 28 i0 _ 2 16 Try.underlying57 hi0 hz0 hz1 hz2 rfl (by decide) v n xs hown ad 1 c [u1, u2] rfl hnews h1 (by unfold maxLen; omega) (by omega) (Nat.zero_le _)
  unfold Oper.wp
  simp [execOp, ho, resolve, invoke, builtin, hs, hx, hr, Result.andThen]
  exact h v' w' k2 k3 k5

set_option maxRecDepth 100000 in
set_option maxHeartbeats 1600000 in
theorem addP_any {w : World} {p b : Nat} {v : Value} {ks : List Nat} (h : IxP w p b v ks) (k : Nat) (hk : k < 4) : Calls Try.prog 21 #[.pointer (some ⟨p, 0, none⟩), valP k] w fun e w' =>
    e = .returned (.int .i64 ((num ks k : Nat) : Int)) ∧ ∃ v', IxP w' p b v' (ins ks k) ∧ IStep p b w v w' v' := by
  obtain ⟨x, y, ev0, ecl⟩ := valP_form k
  have hB1 : Below w.heap.size w (w.alloc (.cells #[.int .i64 x, .int .i64 y] 28)) := (Below.refl _ _).alloc (Nat.le_refl _) _
  have h1 := h.below hB1
  have hl : ∀ n, (Instr.lookup 56 (.map (some b)) (.agg #[.int .i64 x, .int .i64 y]) true).run Try.prog ((w.alloc (.cells #[.int .i64 x, .int .i64 y] 28)).drewN n) = .ok (.tuple #[.int .i64 (((idx ks k).getD 0 : Nat) : Int), .bool (idx ks k).isSome]) ((w.alloc (.cells #[.int .i64 x, .int .i64 y] 28)).drewN n) := fun n => by
    rw [← ev0]
    exact (h1.mp.keep (w' := (w.alloc (.cells #[.int .i64 x, .int .i64 y] 28)).drewN n) rfl).look k hk
  have hc1 := h1.c1
  have hp := h.lt
  have hsm := h.small
  have EV := hide ev0
  have ECL := hide ecl
  have HB1 := hide hB1
  rw [ev0]
  clear ev0 ecl hB1
  cases hi : idx ks k with
  | some i =>
    rw [hi] at hl
    simp only [Option.getD_some, Option.isSome_some] at hl
    obtain ⟨e1, e2⟩ := ins_old hi
    rw [e1, e2]
    have H := hide h
    clear h h1 hi e1 e2
    go_enter Try.func21, Try.ntmps21
    go_wp2
    go_quiet (fail)
    go_wp2
    go_ret
    have hB2 := (unhide HB1).trans ((Fr.drewN (S := fun _ => False) (w := w.alloc (.cells #[.int .i64 x, .int .i64 y] 28)) nq).below (unhide HB1).size (fun _ _ e => e))
    exact ⟨rfl, v, (unhide H).below hB2, IStep.afterP hB2 (IStep.refl _ _ _ _)⟩
  | none =>
    rw [hi] at hl
    simp only [Option.getD_none, Option.isSome_none] at hl
    obtain ⟨e1, e2⟩ := ins_new hi
    rw [e1, e2]
    obtain ⟨a, cap, ev, _⟩ := h.shape
    obtain ⟨n, en⟩ : ∃ n, Hid (ks.length = n) := ⟨_, rfl⟩
    rw [unhide en] at ev hsm ⊢
    rw [ev] at h h1 ⊢
    have hc0 := h1.c0
    have H := hide h
    have H1 := hide h1
    have HI := hide hi
    obtain ⟨i0, hi0, hz0, hz1, hz2⟩ := info_parts Try.infoKP
    obtain ⟨X, hX⟩ : ∃ X, Hid (ks.flatMap clP = X) := ⟨_, rfl⟩
    have hbox : (w.alloc (.cells #[.int .i64 x, .int .i64 y] 28)).cell? ⟨w.heap.size, 0, none⟩ = some (.int .i64 x) ∧ (w.alloc (.cells #[.int .i64 x, .int .i64 y] 28)).cell? ⟨w.heap.size, 1, none⟩ = some (.int .i64 y) := by
      have hg := heap_alloc_new w (.cells #[.int .i64 x, .int .i64 y] 28)
      exact ⟨by simp only [World.cell?, hg]; rfl, by simp only [World.cell?, hg]; rfl⟩
    have HBOX := hide hbox
    have HFT : Hid (∀ x, Foot p b (.slice a n cap) x → x < w.heap.size) := h.foot
    clear h h1 hi e1 e2 ev hbox
    go_enter Try.func21, Try.ntmps21
    go_wp2
    go_quiet (fail)
    clear hl
    have hB2 := (unhide HB1).trans ((Fr.drewN (S := fun _ => False) (w := w.alloc (.cells #[.int .i64 x, .int .i64 y] 28)) nq).below (unhide HB1).size (fun _ _ e => e))
    have hx2 := (unhide H).below hB2
    have HAF := hide (fun (w2 : World) (v1 v2 : Value) (s : IStep p b ((w.alloc (.cells #[.int .i64 x, .int .i64 y] 28)).drewN nq) v1 w2 v2) => IStep.afterP hB2 s)
    have b0 : ((w.alloc (.cells #[.int .i64 x, .int .i64 y] 28)).drewN nq).cell? ⟨w.heap.size, 0, none⟩ = some (.int .i64 x) := (unhide HBOX).1
    have b1 : ((w.alloc (.cells #[.int .i64 x, .int .i64 y] 28)).drewN nq).cell? ⟨w.heap.size, 1, none⟩ = some (.int .i64 y) := (unhide HBOX).2
    have hqp : Hid (w.heap.size ≠ p) := by unfold Hid; omega
    clear hc0 hc1 HBOX HB1 H1
    generalize (w.alloc (.cells #[.int .i64 x, .int .i64 y] 28)).drewN nq = W at *
    generalize w.heap.size = q at *
    have hc0 := hx2.c0
    have hf0 := hx2.f0
    have hpW := hx2.lt
    have HB2 := hide hB2
    have HX2 := hide hx2
    have hown : Hid (W.drew.ownsRow 0 28 2 (.slice a n cap) n X) := by
      have := hx2.own
      rw [unhide en, unhide hX] at this
      exact own_keep this (fun _ _ => rfl)
    have hcA : (W.alloc (.cells #[.int .i64 x, .int .i64 y] 28)).cell? ⟨p, 0, none⟩ = some (.slice a n cap) := (World.cell?_of_block (Below.heap_alloc _ _ _ hpW)).trans hc0
    have hqW : Hid (q < W.heap.size) := World.block_lt_of_cell? _ _ b0
    have HSA : Hid ((W.alloc (.cells #[.int .i64 x, .int .i64 y] 28)).drew.cell? ⟨q, 0, none⟩ = some (.int .i64 x) ∧ (W.alloc (.cells #[.int .i64 x, .int .i64 y] 28)).drew.cell? ⟨q, 1, none⟩ = some (.int .i64 y)) :=
      ⟨(World.cell?_of_block (a := ⟨q, 0, none⟩) (Below.heap_alloc _ _ _ (unhide hqW))).trans b0, (World.cell?_of_block (a := ⟨q, 1, none⟩) (Below.heap_alloc _ _ _ (unhide hqW))).trans b1⟩
    clear hB2 hx2
    go_wp2
    refine wp_region_held_drew (S := fun wx => wx.cell? ⟨q, 0, none⟩ = some (.int .i64 x) ∧ wx.cell? ⟨q, 1, none⟩ = some (.int .i64 y)) (by kernel_rfl) ⟨b0, b1⟩ (fun hHeld => ?_)
    refine wpAnyH_take (i := 0) (oi := _) (v := .pointer (some ⟨p, 0, none⟩)) rfl (by kernel_rfl) (by kernel_rfl) (by kernel_rfl) (fun _ _ _ h => h) (Or.inl ⟨by rfl, (by intro w hSw; go_simp)⟩) (by assumption) ?_
    refine wpAnyH_take (i := 1) (oi := _) (v := .pointer (some ⟨p, 0, none⟩)) rfl (by kernel_rfl) (by kernel_rfl) (by kernel_rfl) (fun _ _ _ h => h) (Or.inl ⟨by rfl, (by intro w hSw; go_simp)⟩) (by assumption) ?_
    refine wpAnyH_take (i := 2) (oi := _) (v := .pointer (some ⟨p, 0, none⟩)) rfl (by kernel_rfl) (by kernel_rfl) (by kernel_rfl) (fun _ _ _ h => h) (Or.inl ⟨by rfl, (by intro w hSw; go_simp)⟩) (by assumption) ?_
    go_simp
    refine wpAnyH_take (i := 3) (oi := _) (v := .pointer (some ⟨p, 0, none⟩)) rfl (by kernel_rfl) (by kernel_rfl) (by kernel_rfl) (fun _ _ _ h => h) (Or.inl ⟨by rfl, (by intro w hSw; go_simp)⟩) (by assumption) ?_
    refine wpAnyH_take (i := 5) (oi := _) (v := .agg #[.int .i64 x, .int .i64 y]) rfl (by kernel_rfl) (by kernel_rfl) (by kernel_rfl) (fun _ _ _ h => h) (Or.inl ⟨by rfl, (by intro w hSw; obtain ⟨hs1, hs2⟩ := hSw; go_simp)⟩) (by assumption) ?_
    go_simp
    refine wpAnyH_ready (rs := [4, 6]) (by kernel_rfl) (by simp) ?_
    refine AllReadyH.cons (o := _) rfl (fun K hK => ?_) (AllReadyH.cons (o := _) rfl (fun K hK => ?_) AllReadyH.nil)
    · go_simp
      refine hK.out _ _ hHeld (fun _ => ?_)
      clear hK K
      refine wpAnyH_ready (rs := [6]) (by kernel_rfl) (by simp) ?_
      refine AllReadyH.cons (o := _) rfl (fun K hK => ?_) AllReadyH.nil
      go_simp
      refine hK.out _ _ (unhide HSA) (fun _ => ?_)
      clear hK K
      refine wpAnyH_ready (rs := [7]) (by kernel_rfl) (by simp) ?_
      refine AllReadyH.cons (o := _) rfl (fun K hK => ?_) AllReadyH.nil
      refine step_appP rfl _ _ rfl (.slice a n cap) n X rfl (own_keep (w := W.drew.alloc (.cells #[.int .i64 x, .int .i64 y] 28)) ((unhide hown).alloc _) (fun _ _ => rfl)) ⟨W.heap.size, 0, none⟩ 1 (.int .i64 x) (.int .i64 y) rfl (by exact two_newP W (.int .i64 x) (.int .i64 y) 28) (by simp [Value.oneCell']) (by omega) ?_
      intro v' w5 hown5 hg5 hat5
      obtain ⟨gg, cap', rfl⟩ := own_sliceP hown5
      have hg5' : (W.alloc (.cells #[.int .i64 x, .int .i64 y] 28)).grownBy w5 (Value.slice a n cap).ownBlock := ⟨hg5.os, hg5.tape, hg5.output, hg5.size, hg5.block⟩
      obtain ⟨k0, kf, k1, hall⟩ := (unhide HX2).added (unhide HI) hk en (by rw [unhide hX, unhide ECL]; exact hown5) hg5' hat5
      obtain ⟨w2, hrun, hh⟩ := hall 1
      rw [unhide EV] at hrun
      have hbq : ∀ o, w5.cell? ⟨q, o, none⟩ = W.cell? ⟨q, o, none⟩ := fun o => World.cell?_of_block ((hg5'.block q (by have := unhide hqW; simp; omega) (fun e => by have := unhide HFT q (.inr (.inr e.symm)); omega)).trans (Below.heap_alloc _ _ _ (unhide hqW)))
      have b05 := (hbq 0).trans b0
      have b15 := (hbq 1).trans b1
      have HH := hide hh
      clear hown5 hg5 hg5' hat5 hall hh hbq
      refine hK.out _ _ ⟨b05, b15⟩ (fun hHeld5 => ?_)
      clear hK K
      go_simp
      refine wpAnyH_take (i := 8) (oi := _) (v := .pointer (some ⟨p, 0, none⟩)) rfl (by kernel_rfl) (by kernel_rfl) (by kernel_rfl) (fun _ _ _ h => h) (Or.inl ⟨by rfl, (by intro w hSw; go_simp)⟩) (by assumption) ?_
      refine wpAnyH_take (i := 9) (oi := _) (v := .pointer (some ⟨p, 0, none⟩)) rfl (by kernel_rfl) (by kernel_rfl) (by kernel_rfl) (fun _ _ _ h => h) (Or.inl ⟨by rfl, (by intro w hSw; go_simp)⟩) (by assumption) ?_
      go_simp
      refine wpAnyH_ready (rs := [10]) (by kernel_rfl) (by simp) ?_
      refine AllReadyH.cons (o := _) rfl (fun K hK => ?_) AllReadyH.nil
      go_simp
      have hpq : (⟨p, 0, none⟩ : Addr).block ≠ q := fun e => unhide hqp e.symm
      have b06 : (w5.setCell ⟨p, 0, none⟩ (.slice (some ⟨gg, 0, none⟩) (n + 1) cap')).cell? ⟨q, 0, none⟩ = some (.int .i64 x) := by rw [World.cell?_setCell_other _ _ _ _ (fun e => hpq (congrArg Addr.block e))]; exact b05
      have b16 : (w5.setCell ⟨p, 0, none⟩ (.slice (some ⟨gg, 0, none⟩) (n + 1) cap')).cell? ⟨q, 1, none⟩ = some (.int .i64 y) := by rw [World.cell?_setCell_other _ _ _ _ (fun e => hpq (congrArg Addr.block e))]; exact b15
      refine hK.out _ _ ⟨b06, b16⟩ (fun hHeld6 => ?_)
      clear hK K
      refine wpAnyH_done (by kernel_rfl) ?_ _
      have hp6 : p < (w5.setCell ⟨p, 0, none⟩ (.slice (some ⟨gg, 0, none⟩) (n + 1) cap')).heap.size := by have := World.block_lt_of_cell? _ _ k1; exact this
      have hrun : (Instr.mapUpdate 56 (.map (some b)) (.agg #[.int .i64 x, .int .i64 y]) (.int .i64 (n : Int))).run Try.prog (w5.setCell ⟨p, 0, none⟩ (.slice (some ⟨gg, 0, none⟩) (n + 1) cap')).drew = .ok () w2 := hrun
      have b07 : w2.cell? ⟨q, 0, none⟩ = some (.int .i64 x) := ((unhide HH).2.fr.cell (a := ⟨q, 0, none⟩) (unhide hqW) (fun e => by have := unhide HFT q e; omega)).trans b0
      have b17 : w2.cell? ⟨q, 1, none⟩ = some (.int .i64 y) := ((unhide HH).2.fr.cell (a := ⟨q, 1, none⟩) (unhide hqW) (fun e => by have := unhide HFT q e; omega)).trans b1
      have m07 := (unhide HH).1.c1
      clear hHeld hHeld5 hHeld6 b05 b15 hcA hc0 hf0 HSA k0 kf hpq b0 b1
      generalize w5.setCell ⟨p, 0, none⟩ (.slice (some ⟨gg, 0, none⟩) (n + 1) cap') = W6 at *
      go_wp2
      refine wp_region_held_drew (S := fun wx => wx.cell? ⟨q, 0, none⟩ = some (.int .i64 x) ∧ wx.cell? ⟨q, 1, none⟩ = some (.int .i64 y) ∧ wx.cell? ⟨p, 1, none⟩ = some (.map (some b))) (by kernel_rfl) ⟨b06, b16, k1⟩ (fun hHeld => ?_)
      refine wpAnyH_take (i := 0) (oi := _) (v := .pointer (some ⟨p, 0, none⟩)) rfl (by kernel_rfl) (by kernel_rfl) (by kernel_rfl) (fun _ _ _ h => h) (Or.inl ⟨by rfl, (by intro w hSw; go_simp)⟩) (by assumption) ?_
      refine wpAnyH_take (i := 1) (oi := _) (v := .pointer (some ⟨p, 0, none⟩)) rfl (by kernel_rfl) (by kernel_rfl) (by kernel_rfl) (fun _ _ _ h => h) (Or.inl ⟨by rfl, (by intro w hSw; go_simp)⟩) (by assumption) ?_
      refine wpAnyH_take (i := 2) (oi := _) (v := .pointer (some ⟨p, 1, none⟩)) rfl (by kernel_rfl) (by kernel_rfl) (by kernel_rfl) (fun _ _ _ h => h) (Or.inl ⟨by rfl, (by intro w hSw; go_simp)⟩) (by assumption) ?_
      go_simp
      refine wpAnyH_take (i := 3) (oi := _) (v := .map (some b)) rfl (by kernel_rfl) (by kernel_rfl) (by kernel_rfl) (fun _ _ _ h => h) (Or.inl ⟨by rfl, (by intro w hSw; obtain ⟨hs1, hs2, hs3⟩ := hSw; go_simp)⟩) (by assumption) ?_
      refine wpAnyH_take (i := 4) (oi := _) (v := .agg #[.int .i64 x, .int .i64 y]) rfl (by kernel_rfl) (by kernel_rfl) (by kernel_rfl) (fun _ _ _ h => h) (Or.inl ⟨by rfl, (by intro w hSw; obtain ⟨hs1, hs2, hs3⟩ := hSw; go_simp)⟩) (by assumption) ?_
      refine wpAnyH_take (i := 5) (oi := _) (v := .int .i64 (n : Int)) rfl (by kernel_rfl) (by kernel_rfl) (by kernel_rfl) (fun _ _ _ h => h) (Or.inl ⟨by rfl, (by intro w hSw; go_simp)⟩) (by assumption) ?_
      go_simp
      refine wpAnyH_ready (rs := [6]) (by kernel_rfl) (by simp) ?_
      refine AllReadyH.cons (o := _) rfl (fun K hK => ?_) AllReadyH.nil
      go_simp
      refine hK.out _ _ ⟨b07, b17, m07⟩ (fun hHeld6 => ?_)
      clear hK K
      refine wpAnyH_done (by kernel_rfl) ?_ _
      clear hHeld hHeld6 b06 b16 b07 b17 m07 k1 hrun
      go_wp2
      go_ret
      exact ⟨rfl, _, (unhide HH).1, unhide HAF _ _ _ (unhide HH).2⟩
    · go_simp
      refine hK.out _ _ (unhide HSA) (fun _ => ?_)
      clear hK K
      refine wpAnyH_ready (rs := [4]) (by kernel_rfl) (by simp) ?_
      refine AllReadyH.cons (o := _) rfl (fun K hK => ?_) AllReadyH.nil
      go_simp
      refine hK.out _ _ (unhide HSA) (fun _ => ?_)
      clear hK K
      refine wpAnyH_ready (rs := [7]) (by kernel_rfl) (by simp) ?_
      refine AllReadyH.cons (o := _) rfl (fun K hK => ?_) AllReadyH.nil
      refine step_appP rfl _ _ rfl (.slice a n cap) n X rfl (own_keep (w := W.drew.alloc (.cells #[.int .i64 x, .int .i64 y] 28)) ((unhide hown).alloc _) (fun _ _ => rfl)) ⟨W.heap.size, 0, none⟩ 1 (.int .i64 x) (.int .i64 y) rfl (by exact two_newP W (.int .i64 x) (.int .i64 y) 28) (by simp [Value.oneCell']) (by omega) ?_
      intro v' w5 hown5 hg5 hat5
      obtain ⟨gg, cap', rfl⟩ := own_sliceP hown5
      have hg5' : (W.alloc (.cells #[.int .i64 x, .int .i64 y] 28)).grownBy w5 (Value.slice a n cap).ownBlock := ⟨hg5.os, hg5.tape, hg5.output, hg5.size, hg5.block⟩
      obtain ⟨k0, kf, k1, hall⟩ := (unhide HX2).added (unhide HI) hk en (by rw [unhide hX, unhide ECL]; exact hown5) hg5' hat5
      obtain ⟨w2, hrun, hh⟩ := hall 1
      rw [unhide EV] at hrun
      have hbq : ∀ o, w5.cell? ⟨q, o, none⟩ = W.cell? ⟨q, o, none⟩ := fun o => World.cell?_of_block ((hg5'.block q (by have := unhide hqW; simp; omega) (fun e => by have := unhide HFT q (.inr (.inr e.symm)); omega)).trans (Below.heap_alloc _ _ _ (unhide hqW)))
      have b05 := (hbq 0).trans b0
      have b15 := (hbq 1).trans b1
      have HH := hide hh
      clear hown5 hg5 hg5' hat5 hall hh hbq
      refine hK.out _ _ ⟨b05, b15⟩ (fun hHeld5 => ?_)
      clear hK K
      go_simp
      refine wpAnyH_take (i := 8) (oi := _) (v := .pointer (some ⟨p, 0, none⟩)) rfl (by kernel_rfl) (by kernel_rfl) (by kernel_rfl) (fun _ _ _ h => h) (Or.inl ⟨by rfl, (by intro w hSw; go_simp)⟩) (by assumption) ?_
      refine wpAnyH_take (i := 9) (oi := _) (v := .pointer (some ⟨p, 0, none⟩)) rfl (by kernel_rfl) (by kernel_rfl) (by kernel_rfl) (fun _ _ _ h => h) (Or.inl ⟨by rfl, (by intro w hSw; go_simp)⟩) (by assumption) ?_
      go_simp
      refine wpAnyH_ready (rs := [10]) (by kernel_rfl) (by simp) ?_
      refine AllReadyH.cons (o := _) rfl (fun K hK => ?_) AllReadyH.nil
      go_simp
      have hpq : (⟨p, 0, none⟩ : Addr).block ≠ q := fun e => unhide hqp e.symm
      have b06 : (w5.setCell ⟨p, 0, none⟩ (.slice (some ⟨gg, 0, none⟩) (n + 1) cap')).cell? ⟨q, 0, none⟩ = some (.int .i64 x) := by rw [World.cell?_setCell_other _ _ _ _ (fun e => hpq (congrArg Addr.block e))]; exact b05
      have b16 : (w5.setCell ⟨p, 0, none⟩ (.slice (some ⟨gg, 0, none⟩) (n + 1) cap')).cell? ⟨q, 1, none⟩ = some (.int .i64 y) := by rw [World.cell?_setCell_other _ _ _ _ (fun e => hpq (congrArg Addr.block e))]; exact b15
      refine hK.out _ _ ⟨b06, b16⟩ (fun hHeld6 => ?_)
      clear hK K
      refine wpAnyH_done (by kernel_rfl) ?_ _
      have hp6 : p < (w5.setCell ⟨p, 0, none⟩ (.slice (some ⟨gg, 0, none⟩) (n + 1) cap')).heap.size := by have := World.block_lt_of_cell? _ _ k1; exact this
      have hrun : (Instr.mapUpdate 56 (.map (some b)) (.agg #[.int .i64 x, .int .i64 y]) (.int .i64 (n : Int))).run Try.prog (w5.setCell ⟨p, 0, none⟩ (.slice (some ⟨gg, 0, none⟩) (n + 1) cap')).drew = .ok () w2 := hrun
      have b07 : w2.cell? ⟨q, 0, none⟩ = some (.int .i64 x) := ((unhide HH).2.fr.cell (a := ⟨q, 0, none⟩) (unhide hqW) (fun e => by have := unhide HFT q e; omega)).trans b0
      have b17 : w2.cell? ⟨q, 1, none⟩ = some (.int .i64 y) := ((unhide HH).2.fr.cell (a := ⟨q, 1, none⟩) (unhide hqW) (fun e => by have := unhide HFT q e; omega)).trans b1
      have m07 := (unhide HH).1.c1
      clear hHeld hHeld5 hHeld6 b05 b15 hcA hc0 hf0 HSA k0 kf hpq b0 b1
      generalize w5.setCell ⟨p, 0, none⟩ (.slice (some ⟨gg, 0, none⟩) (n + 1) cap') = W6 at *
      go_wp2
      refine wp_region_held_drew (S := fun wx => wx.cell? ⟨q, 0, none⟩ = some (.int .i64 x) ∧ wx.cell? ⟨q, 1, none⟩ = some (.int .i64 y) ∧ wx.cell? ⟨p, 1, none⟩ = some (.map (some b))) (by kernel_rfl) ⟨b06, b16, k1⟩ (fun hHeld => ?_)
      refine wpAnyH_take (i := 0) (oi := _) (v := .pointer (some ⟨p, 0, none⟩)) rfl (by kernel_rfl) (by kernel_rfl) (by kernel_rfl) (fun _ _ _ h => h) (Or.inl ⟨by rfl, (by intro w hSw; go_simp)⟩) (by assumption) ?_
      refine wpAnyH_take (i := 1) (oi := _) (v := .pointer (some ⟨p, 0, none⟩)) rfl (by kernel_rfl) (by kernel_rfl) (by kernel_rfl) (fun _ _ _ h => h) (Or.inl ⟨by rfl, (by intro w hSw; go_simp)⟩) (by assumption) ?_
      refine wpAnyH_take (i := 2) (oi := _) (v := .pointer (some ⟨p, 1, none⟩)) rfl (by kernel_rfl) (by kernel_rfl) (by kernel_rfl) (fun _ _ _ h => h) (Or.inl ⟨by rfl, (by intro w hSw; go_simp)⟩) (by assumption) ?_
      go_simp
      refine wpAnyH_take (i := 3) (oi := _) (v := .map (some b)) rfl (by kernel_rfl) (by kernel_rfl) (by kernel_rfl) (fun _ _ _ h => h) (Or.inl ⟨by rfl, (by intro w hSw; obtain ⟨hs1, hs2, hs3⟩ := hSw; go_simp)⟩) (by assumption) ?_
      refine wpAnyH_take (i := 4) (oi := _) (v := .agg #[.int .i64 x, .int .i64 y]) rfl (by kernel_rfl) (by kernel_rfl) (by kernel_rfl) (fun _ _ _ h => h) (Or.inl ⟨by rfl, (by intro w hSw; obtain ⟨hs1, hs2, hs3⟩ := hSw; go_simp)⟩) (by assumption) ?_
      refine wpAnyH_take (i := 5) (oi := _) (v := .int .i64 (n : Int)) rfl (by kernel_rfl) (by kernel_rfl) (by kernel_rfl) (fun _ _ _ h => h) (Or.inl ⟨by rfl, (by intro w hSw; go_simp)⟩) (by assumption) ?_
      go_simp
      refine wpAnyH_ready (rs := [6]) (by kernel_rfl) (by simp) ?_
      refine AllReadyH.cons (o := _) rfl (fun K hK => ?_) AllReadyH.nil
      go_simp
      refine hK.out _ _ ⟨b07, b17, m07⟩ (fun hHeld6 => ?_)
      clear hK K
      refine wpAnyH_done (by kernel_rfl) ?_ _
      clear hHeld hHeld6 b06 b16 b07 b17 m07 k1 hrun
      go_wp2
      go_ret
      exact ⟨rfl, _, (unhide HH).1, unhide HAF _ _ _ (unhide HH).2⟩
end Go.Proofs.Ythmcalapofjmfab
