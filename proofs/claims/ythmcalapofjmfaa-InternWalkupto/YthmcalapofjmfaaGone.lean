/-
  All, gone.
-/
import Derived.Test.YthmcalapofjmfaaHands
namespace Go.Proofs.Ythmcalapofjmfaa
open Go.RowKit Go.Shelf
set_option linter.unusedVariables false
attribute [local go_sem] Oper.semAt_some

set_option maxRecDepth 100000 in
set_option maxHeartbeats 800000 in
theorem all_any (w : World) (p : Nat) : Calls Try.prog 22 #[.pointer (some ⟨p, 0, none⟩)] w fun e w' => e = .returned (.func (.func 37) #[] #[.pointer (some ⟨w.heap.size, 0, none⟩)]) ∧ w' = w.alloc (.cells #[.pointer (some ⟨p, 0, none⟩)] 23) := by
  go_enter Try.func22, Try.ntmps22
  go_wp2
  go_ret
  exact ⟨rfl, rfl⟩

/-- A cell that may be written. -/
def Bx (X : World) (b : Nat) (v : Value) : Prop := X.cell? ⟨b, 0, none⟩ = some v ∧ X.frozen? ⟨b, 0, none⟩ = false
theorem Bx.lt {X : World} {b : Nat} {v : Value} (h : Bx X b v) : b < X.heap.size := World.block_lt_of_cell? _ _ h.1
theorem Bx.keep {S : Nat → Prop} {X Y : World} {b : Nat} {v : Value} (h : Bx X b v) (f : Fr S X Y) (hn : ¬ S b) : Bx Y b v :=
  ⟨(f.cell (a := ⟨b, 0, none⟩) h.lt hn).trans h.1, (f.frozen (a := ⟨b, 0, none⟩) h.lt hn).trans h.2⟩
theorem Bx.alloc {X : World} {b : Nat} {v : Value} (h : Bx X b v) (o : Obj) : Bx (X.alloc o) b v := h.keep ((Fr.refl (fun _ => False) X).alloc o) (fun e => e)
theorem Bx.new (X : World) (v : Value) (t : TypeId) : Bx (X.alloc (.cells #[v] t)) X.heap.size v := by
  have hg := heap_alloc_new X (.cells #[v] t)
  refine ⟨?_, ?_⟩
  · simp only [World.cell?, hg]; rfl
  · simp only [World.frozen?, hg]; rfl
theorem Bx.set {X : World} {b : Nat} {v : Value} (h : Bx X b v) (u : Value) : Bx (X.setCell ⟨b, 0, none⟩ u) b u :=
  ⟨World.cell?_setCell_same' _ _ _ (by rw [h.1]; rfl), by rw [World.frozen?_setCell]; exact h.2⟩
theorem Bx.other {X : World} {b c : Nat} {v : Value} (h : Bx X b v) (hne : b ≠ c) (u : Value) : Bx (X.setCell ⟨c, 0, none⟩ u) b v :=
  h.keep ((Fr.refl (fun x => x = c) X).setCell ⟨c, 0, none⟩ (.inr rfl) u) hne

theorem fr_sh (D : Nat) (X : World) (o : Obj) : Fr (fun x => x = D) X (X.putObj D o) := ⟨rfl, rfl, rfl, by simp, fun k _ hk => World.putObj_heap_other hk⟩
/-- gone's state behind k rounds. -/
structure GoI (w : World) (p : Nat) (k : Nat) (X : World) : Prop where
  bel : Below w.heap.size w X
  b0 : Bx X w.heap.size (.pointer (some ⟨p, 0, none⟩))
  b1 : Bx X (w.heap.size + 1) (.int .i64 0)
  b2 : Bx X (w.heap.size + 1 + 1) (.int .i64 (k : Int))
  b3 : Bx X (w.heap.size + 1 + 1 + 1) (.pointer (some ⟨p, 0, none⟩))
theorem GoI.keep {w X Y : World} {p k : Nat} (h : GoI w p k X) (f : Fr (two2 (w.heap.size + 4)) X Y) : GoI w p k Y :=
  ⟨h.bel.trans (f.below h.bel.size (fun k hk e => by unfold two2 at e; omega)), h.b0.keep f (by unfold two2; omega), h.b1.keep f (by unfold two2; omega), h.b2.keep f (by unfold two2; omega), h.b3.keep f (by unfold two2; omega)⟩

set_option maxRecDepth 100000 in
set_option maxHeartbeats 1600000 in
theorem gone_any {w : World} {p b : Nat} {v : Value} {rs : List ByteArray} (h : Ix w p b v rs) (hm : rs.length ≤ 140737488355328) : Calls Try.prog 27 #[.pointer (some ⟨p, 0, none⟩)] w fun e w' => e = .returned (.int .i64 (rs.length : Int)) ∧ Below w.heap.size w w' := by
  obtain ⟨n, hn⟩ : ∃ n : Nat, 4 ≤ n := ⟨4, Nat.le_refl _⟩
  refine (callsIn_wide (n := n)).1 ?_
  refine callsIn_of_wp_marks Try.func27 rfl trivial ?_ rfl
  simp only [Try.ntmps27, List.size_toArray, List.length_cons, List.length_nil, Nat.reduceAdd, Nat.reduceSub, Array.replicate_succ, Array.replicate_zero, List.push_toArray, List.append_toArray, List.nil_append, List.cons_append]
  have H := hide h
  clear h
  gi_wp2_with fail
  refine ⟨trivial, (fun q => by cases q), (callsIn_wide.2 (all_any _ _)).mono ?_⟩
  rintro e w1 ⟨rfl, ew⟩
  rw [ew]
  clear ew w1
  gi_wp2_with fail
  obtain ⟨W0, eW⟩ : ∃ W0, W0 = ((((w.alloc (.cells #[.pointer (some ⟨p, 0, none⟩)] 23)).alloc (.cells #[.int .i64 0] 3)).alloc (.cells #[.int .i64 0] 3)).alloc (.cells #[.pointer (some ⟨p, 0, none⟩)] 23)) := ⟨_, rfl⟩
  have hs0 : W0.heap.size = w.heap.size + 4 := by rw [eW]; simp
  have hG : GoI w p 0 W0 := by
    rw [eW]
    have s1 : (w.alloc (.cells #[.pointer (some ⟨p, 0, none⟩)] 23)).heap.size = w.heap.size + 1 := by simp
    have s2 : ((w.alloc (.cells #[.pointer (some ⟨p, 0, none⟩)] 23)).alloc (.cells #[.int .i64 0] 3)).heap.size = w.heap.size + 1 + 1 := by simp
    have s3 : (((w.alloc (.cells #[.pointer (some ⟨p, 0, none⟩)] 23)).alloc (.cells #[.int .i64 0] 3)).alloc (.cells #[.int .i64 0] 3)).heap.size = w.heap.size + 1 + 1 + 1 := by simp
    refine ⟨((((Below.refl _ _).alloc (Nat.le_refl _) _).alloc (by omega) _).alloc (by omega) _).alloc (by omega) _, (((Bx.new w _ _).alloc _).alloc _).alloc _, ?_, ?_, ?_⟩
    · have := ((Bx.new (w.alloc (.cells #[.pointer (some ⟨p, 0, none⟩)] 23)) (.int .i64 0) 3).alloc (.cells #[.int .i64 0] 3)).alloc (.cells #[.pointer (some ⟨p, 0, none⟩)] 23)
      rw [s1] at this; exact this
    · have := (Bx.new ((w.alloc (.cells #[.pointer (some ⟨p, 0, none⟩)] 23)).alloc (.cells #[.int .i64 0] 3)) (.int .i64 0) 3).alloc (.cells #[.pointer (some ⟨p, 0, none⟩)] 23)
      rw [s2] at this; exact this
    · have := Bx.new (((w.alloc (.cells #[.pointer (some ⟨p, 0, none⟩)] 23)).alloc (.cells #[.int .i64 0] 3)).alloc (.cells #[.int .i64 0] 3)) (.pointer (some ⟨p, 0, none⟩)) 23
      rw [s3] at this; exact this
  rw [← eW]
  clear eW
  refine wpIn_hands rfl (by omega) (gf := 37) (lb := #[.pointer (some ⟨w.heap.size + 1 + 1 + 1, 0, none⟩)]) rfl trivial (enters_of Try.func37 (by kernel_rfl) rfl) (all1_hands (n - 1) (w.heap.size + 1 + 1 + 1) p (fun _ => rs) (fun _ => hm)) (fun _ => rfl)
    (GoI w p) (fun _ _ _ => False) (fun k X q => ⟨q.b3.1, b, v, (unhide H).below (q.bel)⟩) (fun k X Y q f => q.keep (by rw [hs0] at f; exact f)) (fun _ _ _ _ q _ => q) hG
    (fun k => { tmps := #[.pointer (some ⟨p, 0, none⟩), .pointer (some ⟨w.heap.size, 0, none⟩), .pointer (some ⟨w.heap.size + 1, 0, none⟩), .pointer (some ⟨w.heap.size + 1 + 1, 0, none⟩), .int .i64 (k : Int), .string (tx rs k), undef, undef, .pointer (some ⟨p, 0, none⟩), .func (.func 37) #[] #[.pointer (some ⟨w.heap.size + 1 + 1 + 1, 0, none⟩)], .int .i64 (k : Int), .string (tx rs k), undef, undef, undef, undef, undef, undef, undef, undef, undef, undef, undef, undef, undef, undef, undef, undef, undef, undef, undef, undef, undef], defers := [] }) ?assign ?body ?done ?stop
  case assign =>
    intro l k X K hK
    simp only [encW]
    gi_wp2_with fail
    exact hK
  case body =>
    rintro l k X hG ⟨hk0, _⟩ hlt
    have hk : k < rs.length := hk0
    clear hk0
    have HA := hide (at_in ((unhide H).below hG.bel) k hk hm)
    have c0 := hG.b0.1
    have c2 := hG.b2.1
    have f2 := hG.b2.2
    have HG := hide hG
    obtain ⟨t, et⟩ : ∃ t, tx rs k = t := ⟨_, rfl⟩
    rw [et] at HA ⊢
    clear et hG
    have hkm : k < 140737488355328 := by omega
    gi_wp2_with fail
    refine ⟨trivial, (fun q => by cases q), (CallsIn.inRound l (callsIn_wide.2 (unhide HA))).mono ?_⟩
    rintro e w1 ⟨rfl, ew⟩
    rw [ew]
    clear ew w1 HA
    gi_wp2_with fail
    have g := unhide HG
    refine ⟨⟨?_, ?_⟩, ⟨g.bel.setCell (p := ⟨w.heap.size + 1 + 1, 0, none⟩) (by show w.heap.size ≤ w.heap.size + 1 + 1; omega) _, g.b0.other (by omega) _, g.b1.other (by omega) _, ?_, g.b3.other (by omega) _⟩⟩
    · exact Below.heap_setCell _ _ _ _ (by show _ ≠ w.heap.size + 1 + 1; omega)
    · exact Below.heap_setCell _ _ _ _ (by show _ ≠ w.heap.size + 1 + 1; omega)
    · have := g.b2.set (.int .i64 ((k : Int) + 1))
      exact this
  case done =>
    rintro k X hE hG hK
    have ek : k = rs.length := by
      have h1 : k ≤ rs.length := hE.1
      have h2 : k < rs.length → rs.length ≤ k := hE.2
      omega
    have c2 := hG.b2.1
    have c1 := hG.b1.1
    have f1 := hG.b1.2
    have HG := hide hG
    clear hG
    gi_wp2_with fail
    have g := unhide HG
    have hK' : (X.setCell ⟨w.heap.size + 1, 0, none⟩ (.int .i64 (rs.length : Int))).heap[W0.heap.size]? = some (.deferred (some [])) := (Below.heap_setCell _ _ _ _ (by show _ ≠ w.heap.size + 1; omega)).trans hK
    have c5 := (g.b1.set (.int .i64 (rs.length : Int))).keep (fr_sh W0.heap.size _ (.deferred none)) (by show ¬ _ = _; omega)
    have hc5 := c5.1
    refine ⟨by simp, .inl ⟨_, _, rfl, run_takeDeferred hK', .int .i64 (rs.length : Int), ?_, rfl, (g.bel.setCell (p := ⟨w.heap.size + 1, 0, none⟩) (by show w.heap.size ≤ w.heap.size + 1; omega) _).trans ((fr_sh W0.heap.size _ (.deferred none)).below (by have := g.bel.size; simp; omega) (fun k hk e => by omega))⟩⟩
    simp [results, Try.f27, go_sem, hc5]
  case stop =>
    rintro c k X q
    exact q.elim
end Go.Proofs.Ythmcalapofjmfaa
