/-
  Clones; a record told.
-/
import Derived.Test.YtfoanikkngmeiaaHNew
import Derived.Test.YtfoanikkngmeiaaVals
import Derived.Deep.RegionHeld3
namespace Go.Proofs.Ytfoanikkngmeiaa.hp
open Go.RowKit
set_option linter.unusedVariables false
set_option linter.unusedSimpArgs false
section
variable {w w' : World} {h : Nat} {bud sp : Int} {ov : Value} {os : List OD}
end
theorem Try.info28 : (Try.prog.info? 28).map (fun i => (i.zero, i.size, i.bytes)) = some (some (.agg #[.int .i64 0, .int .i64 0]), 2, 16) := by kernel_rfl
theorem Try.info2 : (Try.prog.info? 2).map (fun i => (i.zero, i.size, i.bytes)) = some (some (.int .i64 0), 1, 8) := by kernel_rfl
theorem ones_flat (l : List (Int × Int)) : ∀ u ∈ flat l, u.oneCell' = true := by
  intro u hu
  simp only [flat, List.mem_flatMap] at hu
  obtain ⟨p, _, hp⟩ := hu
  simp at hp
  rcases hp with rfl | rfl <;> rfl
theorem ones_k (l : List Int) : ∀ u ∈ kcells l, u.oneCell' = true := by
  intro u hu
  simp only [kcells, List.mem_map] at hu
  obtain ⟨p, _, rfl⟩ := hu
  rfl
theorem frozen_new (w : World) (cs : Array Value) (t : TypeId) (j : Nat) : (w.alloc (.cells cs t)).frozen? ⟨w.heap.size, j, none⟩ = false := by
  have := heap_alloc_new w (.cells cs t)
  unfold World.frozen?
  simp only
  rw [this]
  simp
/-- A row of one's own that grows. -/
def Gw (w : World) (Q : List (Int × Int)) (v : Value) (wr : World) : Prop := Ro wr 2 v Q.length (flat Q) ∧ Below w.heap.size w wr ∧ ∀ k, v.ownBlock = some k → w.heap.size ≤ k
/-- append of nothing. -/
theorem wpList_app0 {w : World} {ops : Array Oper} {rest : List Oper} {o : Oper} {a : Act} {Q : Exit → Act → World → Prop}
    (hg : o.guard = none) (s x : Operand) (hop : o.op = Op.call { callee := Callee.builtin Builtin.append, args := #[s, x], argTypes := #[40, 40] })
    (g : Nat) (ad : Addr) (c : Nat) (hs : a.eval s = .slice (some ⟨g, 0, none⟩) 0 0) (hx : a.eval x = .slice (some ad) 0 c)
    (hK : wpList Try.prog ops Q rest (a.put o.dst (.slice (some ⟨g, 0, none⟩) 0 0)) w) :
    wpList Try.prog ops Q (o :: rest) a w := by
  refine wpList_plain hg fun K hK' => ?_
  obtain ⟨i0, hi0, hz0, hz1, hz2⟩ := info_parts Try.info28
  have hrun := run_append_room_cells (P := Try.prog) w 40 o.type 28 i0 Try.underlying40 hi0 g 0 0 0 ad 0 c [] (by simp) (fun j u hu => by simp at hu) (by simp) (by omega) (fun j hj => by simp at hj) (fun j hj => by simp at hj)
  simp only [World.setCells, Nat.add_zero] at hrun
  unfold Oper.wp
  simp [execOp, hop, resolve, invoke, builtin, hs, hx, hrun, Result.andThen]
  exact hK' _ _ hK
theorem sl_nil (a : Addr) (L c : Nat) (w : World) : (binOp .eql 40 (.slice (some a) L c) (.slice none 0 0)).run Try.prog w = .ok (.bool false) w := by kernel_rfl
set_option maxRecDepth 100000 in
set_option maxHeartbeats 1600000 in
theorem clone_any {w : World} {ad : Addr} {cap : Nat} {l : List (Int × Int)} (hv : Ro w 2 (.slice (some ad) l.length cap) l.length (flat l)) (hN : l.length ≤ 4096) :
    Calls Try.prog 37 #[.slice (some ad) l.length cap] w fun e w' => ∃ v', e = .returned v' ∧ Gw w l v' w' := by
  have sn := sl_nil
  have hB : Below w.heap.size w (w.alloc (.cells #[] 28)) := (Below.refl _ _).alloc (Nat.le_refl _) _
  have hz : (w.alloc (.cells #[] 28)).heap.size = w.heap.size + 1 := by simp
  have hro : Ro (w.alloc (.cells #[] 28)) 2 (.slice (some ⟨w.heap.size, 0, none⟩) 0 0) 0 [] := ⟨rfl, .inr ⟨w.heap.size, 0, 0, #[], 28, rfl, heap_alloc_new w _, Nat.le_refl _, Nat.zero_le _, by simp, fun j hj => by simp at hj⟩⟩
  by_cases h0 : l.length = 0
  · obtain rfl : l = [] := List.eq_nil_of_length_eq_zero h0
    have HG : Hid (Gw w [] (.slice (some ⟨w.heap.size, 0, none⟩) 0 0) (w.alloc (.cells #[] 28))) := ⟨hro, hB, fun k hk => by simp [Value.ownBlock] at hk; omega⟩
    clear hv hB hro hN h0 hz
    simp only [List.length_nil]
    go_enter Try.func37, Try.ntmps37
    go_wp2_with (first | (at_builtin; refine wpList_app0 rfl _ _ rfl w.heap.size ad cap rfl rfl ?_))
    go_wp2_with fail
    go_ret
    exact ⟨_, rfl, unhide HG⟩
  · obtain ⟨g, off, c', e, h1, h2, h3, h4⟩ := hv.full (by omega)
    cases e
    have hlt : g < w.heap.size := h3
    have HRo := hide hro
    have HB := hide hB
    have HN : Hid (∀ j u, (flat l)[j]? = some u → (w.alloc (.cells #[] 28)).cell? ((⟨g, off, none⟩ : Addr).add j) = some u) := fun j u hu => by
      have hj : j < l.length * 2 := by have := (List.getElem?_eq_some_iff.1 hu).1; rw [flat_length] at this; exact this
      rw [Go.WideShapes.add_plain, World.cell?_of_block (a := ⟨g, off + j, none⟩) (Below.heap_alloc _ _ _ hlt), h4 j hj]
      exact hu
    have HFL := hide (flat_length l)
    have HON := hide (ones_flat l)
    obtain ⟨i0, hi0, hz0, hz1, hz2⟩ := info_parts Try.info28
    obtain ⟨L, hL⟩ : ∃ L, Hid (l.length = L) := ⟨_, rfl⟩
    rw [unhide hL] at h0 hN HFL ⊢
    clear hv hB hro h1 h2 h4
    go_enter Try.func37, Try.ntmps37
    go_wp2_with (first | (at_builtin; refine wpList_app rfl _ _ 40 rfl 28 i0 _ 2 16 Try.underlying40 hi0 hz0 hz1 hz2 rfl (by decide) (.slice (some ⟨w.heap.size, 0, none⟩) 0 0) 0 [] rfl (unhide HRo) ⟨g, off, none⟩ L cap (flat l) rfl (unhide HFL) (unhide HN) (unhide HON) (by omega) (by unfold maxLen; omega) (by omega) ?_))
    intro v' w' hr hg hat
    have HG : Hid (Gw w l v' w') := by
      have f : Fr (fun k => (Value.slice (some ⟨w.heap.size, 0, none⟩) 0 0).ownBlock = some k) (w.alloc (.cells #[] 28)) w' := (Fr.refl _ _).grown hg (fun k e => .inr e)
      refine ⟨by rw [unhide hL]; simpa using hr, (unhide HB).trans (f.below (by simp) (fun k hk e => by simp [Value.ownBlock] at e; omega)), fun k hk => ?_⟩
      rcases hat with q | q
      · rw [q] at hk; simp [Value.ownBlock] at hk; omega
      · rw [q] at hk; cases hk; first | simp | omega
    clear hr hg hat
    go_wp2_with fail
    go_ret
    exact ⟨_, rfl, unhide HG⟩
theorem rec_cells {w : World} {o : OD} (h : o.ok w) (hk : o.k = 7) : w.cell? ⟨o.b, 0, none⟩ = some o.kv ∧ w.cell? ⟨o.b, 1, none⟩ = some o.iv :=
  ⟨h.cell 0 _ (by simp [OD.cells, hk]), h.cell 1 _ (by simp [OD.cells, hk])⟩
theorem nil_nil (w : World) : (binOp .eql 40 (.slice none 0 0) (.slice none 0 0)).run Try.prog w = .ok (.bool true) w := by kernel_rfl
theorem nil_nilK (w : World) : (binOp .eql 49 (.slice none 0 0) (.slice none 0 0)).run Try.prog w = .ok (.bool true) w := by kernel_rfl
theorem sl_nilK (a : Addr) (L c : Nat) (w : World) : (binOp .eql 49 (.slice (some a) L c) (.slice none 0 0)).run Try.prog w = .ok (.bool false) w := by kernel_rfl
set_option maxRecDepth 100000 in
set_option maxHeartbeats 1600000 in
theorem clone_all {w : World} {v : Value} {l : List (Int × Int)} (hv : Ro w 2 v l.length (flat l)) (hN : l.length ≤ 4096) :
    Calls Try.prog 37 #[v] w fun e w' => ∃ v', e = .returned v' ∧ Gw w l v' w' := by
  obtain ⟨a, cap, e, _⟩ := hv.shape
  cases a with
  | some ad => subst e; exact clone_any hv hN
  | none =>
    rcases hv.2 with ⟨e2, h0⟩ | ⟨g, off, c', cur, t, e2, _⟩
    · have nn := nil_nil
      obtain rfl : l = [] := List.eq_nil_of_length_eq_zero h0
      rw [e2]
      have HG : Hid (Gw w [] (.slice none 0 0) w) := ⟨Ro.nil _ _, Below.refl _ _, by simp [Value.ownBlock]⟩
      clear hv e e2
      go_enter Try.func37, Try.ntmps37
      go_wp2_with fail
      go_ret
      exact ⟨_, rfl, unhide HG⟩
    · rw [e] at e2; cases e2
/-- A row of keys of one's own. -/
def Gk (w : World) (Q : List Int) (v : Value) (wr : World) : Prop := Ro wr 1 v Q.length (kcells Q) ∧ Below w.heap.size w wr ∧ ∀ k, v.ownBlock = some k → w.heap.size ≤ k
theorem wpList_app0K {w : World} {ops : Array Oper} {rest : List Oper} {o : Oper} {a : Act} {Q : Exit → Act → World → Prop}
    (hg : o.guard = none) (s x : Operand) (hop : o.op = Op.call { callee := Callee.builtin Builtin.append, args := #[s, x], argTypes := #[49, 49] })
    (g : Nat) (ad : Addr) (c : Nat) (hs : a.eval s = .slice (some ⟨g, 0, none⟩) 0 0) (hx : a.eval x = .slice (some ad) 0 c)
    (hK : wpList Try.prog ops Q rest (a.put o.dst (.slice (some ⟨g, 0, none⟩) 0 0)) w) :
    wpList Try.prog ops Q (o :: rest) a w := by
  refine wpList_plain hg fun K hK' => ?_
  obtain ⟨i0, hi0, hz0, hz1, hz2⟩ := info_parts Try.info2
  have hrun := run_append_room_cells (P := Try.prog) w 49 o.type 2 i0 Try.underlying49 hi0 g 0 0 0 ad 0 c [] (by simp) (fun j u hu => by simp at hu) (by simp) (by omega) (fun j hj => by simp at hj) (fun j hj => by simp at hj)
  simp only [World.setCells, Nat.add_zero] at hrun
  unfold Oper.wp
  simp [execOp, hop, resolve, invoke, builtin, hs, hx, hrun, Result.andThen]
  exact hK' _ _ hK
theorem kcells_length (l : List Int) : (kcells l).length = l.length * 1 := by simp [kcells]
set_option maxRecDepth 100000 in
set_option maxHeartbeats 1600000 in
theorem cloneK_all {w : World} {v : Value} {l : List Int} (hv : Ro w 1 v l.length (kcells l)) (hN : l.length ≤ 4096) :
    Calls Try.prog 38 #[v] w fun e w' => ∃ v', e = .returned v' ∧ Gk w l v' w' := by
  have sn := sl_nilK
  have nn := nil_nilK
  have hB : Below w.heap.size w (w.alloc (.cells #[] 2)) := (Below.refl _ _).alloc (Nat.le_refl _) _
  have hz : (w.alloc (.cells #[] 2)).heap.size = w.heap.size + 1 := by simp
  have hro : Ro (w.alloc (.cells #[] 2)) 1 (.slice (some ⟨w.heap.size, 0, none⟩) 0 0) 0 [] := ⟨rfl, .inr ⟨w.heap.size, 0, 0, #[], 2, rfl, heap_alloc_new w _, Nat.le_refl _, Nat.zero_le _, by simp, fun j hj => by simp at hj⟩⟩
  obtain ⟨a, cap, e, _⟩ := hv.shape
  cases a with
  | none =>
    rcases hv.2 with ⟨e2, h0⟩ | ⟨g, off, c', cur, t, e2, _⟩
    · obtain rfl : l = [] := List.eq_nil_of_length_eq_zero h0
      rw [e2]
      have HG : Hid (Gk w [] (.slice none 0 0) w) := ⟨Ro.nil _ _, Below.refl _ _, by simp [Value.ownBlock]⟩
      clear hv e e2 hro hB hz
      go_enter Try.func38, Try.ntmps38
      go_wp2_with fail
      go_ret
      exact ⟨_, rfl, unhide HG⟩
    · rw [e] at e2; cases e2
  | some ad =>
    subst e
    by_cases h0 : l.length = 0
    · obtain rfl : l = [] := List.eq_nil_of_length_eq_zero h0
      have HG : Hid (Gk w [] (.slice (some ⟨w.heap.size, 0, none⟩) 0 0) (w.alloc (.cells #[] 2))) := ⟨hro, hB, fun k hk => by simp [Value.ownBlock] at hk; omega⟩
      clear hv hB hro hN h0 hz
      simp only [List.length_nil]
      go_enter Try.func38, Try.ntmps38
      go_wp2_with (first | (at_builtin; refine wpList_app0K rfl _ _ rfl w.heap.size ad cap rfl rfl ?_))
      go_wp2_with fail
      go_ret
      exact ⟨_, rfl, unhide HG⟩
    · obtain ⟨g, off, c', e, h1, h2, h3, h4⟩ := hv.full (by omega)
      cases e
      have hlt : g < w.heap.size := h3
      have HRo := hide hro
      have HB := hide hB
      have HN : Hid (∀ j u, (kcells l)[j]? = some u → (w.alloc (.cells #[] 2)).cell? ((⟨g, off, none⟩ : Addr).add j) = some u) := fun j u hu => by
        have hj : j < l.length * 1 := by have := (List.getElem?_eq_some_iff.1 hu).1; rw [kcells_length] at this; exact this
        rw [Go.WideShapes.add_plain, World.cell?_of_block (a := ⟨g, off + j, none⟩) (Below.heap_alloc _ _ _ hlt), h4 j hj]
        exact hu
      have HFL := hide (kcells_length l)
      have HON := hide (ones_k l)
      obtain ⟨i0, hi0, hz0, hz1, hz2⟩ := info_parts Try.info2
      obtain ⟨L, hL⟩ : ∃ L, Hid (l.length = L) := ⟨_, rfl⟩
      rw [unhide hL] at h0 hN HFL ⊢
      clear hv hB hro h1 h2 h4
      go_enter Try.func38, Try.ntmps38
      go_wp2_with (first | (at_builtin; refine wpList_app rfl _ _ 49 rfl 2 i0 _ 1 8 Try.underlying49 hi0 hz0 hz1 hz2 rfl (by decide) (.slice (some ⟨w.heap.size, 0, none⟩) 0 0) 0 [] rfl (unhide HRo) ⟨g, off, none⟩ L cap (kcells l) rfl (unhide HFL) (unhide HN) (unhide HON) (by omega) (by unfold maxLen; omega) (by omega) ?_))
      intro v' w' hr hg hat
      have HG : Hid (Gk w l v' w') := by
        have f : Fr (fun k => (Value.slice (some ⟨w.heap.size, 0, none⟩) 0 0).ownBlock = some k) (w.alloc (.cells #[] 2)) w' := (Fr.refl _ _).grown hg (fun k e => .inr e)
        refine ⟨by rw [unhide hL]; simpa using hr, (unhide HB).trans (f.below (by simp) (fun k hk e => by simp [Value.ownBlock] at e; omega)), fun k hk => ?_⟩
        rcases hat with q | q
        · rw [q] at hk; simp [Value.ownBlock] at hk; omega
        · rw [q] at hk; cases hk; first | simp | omega
      clear hr hg hat
      go_wp2_with fail
      go_ret
      exact ⟨_, rfl, unhide HG⟩
/-- A box of an object told. -/
def objL (k : Int) (v1 v2 : Value) : List Value := [.int .i64 k, v1, v2, .int .i64 0, .int .i64 0, .bool false]
def objC (k : Int) (v1 v2 : Value) : Array Value := #[.int .i64 k, v1, v2, .int .i64 0, .int .i64 0, .bool false]
def Obx (w : World) (b : Nat) (k : Int) (v1 v2 : Value) : Prop := (∀ j (hj : j < 6), w.cell? ⟨b, j, none⟩ = some ((objL k v1 v2)[j]'hj)) ∧ ∀ j, w.frozen? ⟨b, j, none⟩ = false
theorem Obx.new (w : World) (k : Int) (v1 v2 : Value) (t : TypeId) : Obx (w.alloc (.cells (objC k v1 v2) t)) w.heap.size k v1 v2 := by
  have hg := heap_alloc_new w (.cells (objC k v1 v2) t)
  refine ⟨fun j hj => ?_, fun j => frozen_new _ _ _ _⟩
  simp only [World.cell?, hg]
  show (objC k v1 v2)[j]? = _
  have : (objC k v1 v2).toList = objL k v1 v2 := rfl
  rw [← Array.getElem?_toList, this]
  exact List.getElem?_eq_getElem hj
theorem Obx.lt {w : World} {b : Nat} {k : Int} {v1 v2 : Value} (h : Obx w b k v1 v2) : b < w.heap.size := World.block_lt_of_cell? _ _ (h.1 0 (by omega))
theorem Obx.fr {S : Nat → Prop} {w w' : World} {b : Nat} {k : Int} {v1 v2 : Value} (h : Obx w b k v1 v2) (f : Fr S w w') (hn : ¬ S b) : Obx w' b k v1 v2 :=
  ⟨fun j hj => (f.cell (a := ⟨b, j, none⟩) h.lt hn).trans (h.1 j hj), fun j => (f.frozen (a := ⟨b, j, none⟩) h.lt hn).trans (h.2 j)⟩
theorem Obx.set {w : World} {b : Nat} {k k' : Int} {v1 v2 u1 u2 : Value} (h : Obx w b k v1 v2) : Obx (w.setCells b 0 (objL k' u1 u2)) b k' u1 u2 ∧ Fr (fun q => q = b) w (w.setCells b 0 (objL k' u1 u2)) := by
  refine ⟨⟨fun j hj => ?_, fun j => by rw [World.frozen?_setCells]; exact h.2 j⟩, ?_⟩
  · have := World.cell?_setCells_in b (objL k' u1 u2) 0 w (fun i hi => by rw [Nat.zero_add, h.1 i hi]; rfl) j hj
    rw [Nat.zero_add] at this
    exact this
  · obtain ⟨r1, r2, r3⟩ := setCells_rest b (objL k' u1 u2) 0 w
    exact ⟨r1, r2, r3, by rw [setCells_size]; exact Nat.le_refl _, fun i _ hi => setCells_other b i hi _ _ w⟩
set_option maxRecDepth 100000 in
set_option maxHeartbeats 6400000 in
theorem told7_any {w : World} {o : OD} (hok : o.ok w) (hk : o.k = 7) (h1 : o.its.length ≤ 4096) (h2 : o.keys.length ≤ 4096) :
    Calls Try.prog 88 #[.pointer (some ⟨o.b, 0, none⟩)] w fun e w' => ∃ v1 v2, e = .returned (.agg (objC 7 v1 v2)) ∧ Gw w o.its v1 w' ∧ Gk w o.keys v2 w' := by
  have hB : Below w.heap.size w (w.alloc (.cells (objC 0 (.slice none 0 0) (.slice none 0 0)) 51)) := (Below.refl _ _).alloc (Nat.le_refl _) _
  have hz : (w.alloc (.cells (objC 0 (.slice none 0 0) (.slice none 0 0)) 51)).heap.size = w.heap.size + 1 := by simp
  have hok0 : o.ok (w.alloc (.cells (objC 0 (.slice none 0 0) (.slice none 0 0)) 51)) := hok.keep (Fr.of_below (S := fun _ => False) hB) (fun _ _ e => e)
  have O0 := Obx.new w 0 (.slice none 0 0) (.slice none 0 0) 51
  obtain ⟨c0, c1⟩ := rec_cells hok0 hk
  obtain ⟨ia, ic, ie, _⟩ := hok0.items.shape
  obtain ⟨ka, kc, ke, _⟩ := hok0.keys.shape
  have hbl : o.b < (w.alloc (.cells (objC 0 (.slice none 0 0) (.slice none 0 0)) 51)).heap.size := hok0.lt _ (.inl rfl)
  have HOK := hide hok0
  have HCL : Hid (∀ W, (∀ S, Fr S (w.alloc (.cells (objC 0 (.slice none 0 0) (.slice none 0 0)) 51)) W) → Calls Try.prog 37 #[.slice ia o.its.length ic] W fun e w' => ∃ v', e = .returned v' ∧ Gw W o.its v' w') := fun W f => by
    have := clone_all (hok0.items.fr (f (fun _ => False)) (fun _ _ e => e)) h1
    rw [ie] at this
    exact this
  have HKL : Hid (∀ W, Below (w.alloc (.cells (objC 0 (.slice none 0 0) (.slice none 0 0)) 51)).heap.size (w.alloc (.cells (objC 0 (.slice none 0 0) (.slice none 0 0)) 51)) W → Calls Try.prog 38 #[.slice ka o.keys.length kc] W fun e w' => ∃ v', e = .returned v' ∧ Gk W o.keys v' w') := fun W f => by
    have := cloneK_all (hok0.keys.fr (Fr.of_below (S := fun _ => False) f) (fun _ _ e => e)) h2
    rw [ke] at this
    exact this
  rw [ke] at c0
  rw [ie] at c1
  have HO := hide O0
  have HB := hide hB
  have hS : (w.alloc (.cells (objC 0 (.slice none 0 0) (.slice none 0 0)) 51)).cell? ⟨o.b, 0, none⟩ = some (.slice ka o.keys.length kc) ∧ (w.alloc (.cells (objC 0 (.slice none 0 0) (.slice none 0 0)) 51)).cell? ⟨o.b, 1, none⟩ = some (.slice ia o.its.length ic) ∧ o.b < (w.alloc (.cells (objC 0 (.slice none 0 0) (.slice none 0 0)) 51)).heap.size := ⟨c0, c1, hbl⟩
  have hob : Hid (o.b < w.heap.size) := hok.lt _ (.inl rfl)
  have HZ := hide hz
  unfold objC at hS
  clear hok hok0 O0 hB hz c0 c1 hbl ie ke
  go_enter Try.func88, Try.ntmps88
  go_wp2_with fail
  refine wp_region_held_drew (S := (fun wx => wx.cell? ⟨o.b, 0, none⟩ = some (.slice ka o.keys.length kc) ∧ wx.cell? ⟨o.b, 1, none⟩ = some (.slice ia o.its.length ic) ∧ o.b < wx.heap.size)) (by kernel_rfl) hS (fun hHeld => ?_)
  refine wpAnyH_take (i := 0) (oi := _) (v := .pointer (some ⟨o.b, 0, none⟩)) rfl (by kernel_rfl) (by kernel_rfl) (by kernel_rfl) (fun _ _ _ h => h) (Or.inl ⟨by rfl, (by intro w hSw; go_simp)⟩) (by assumption) ?_
  refine wpAnyH_take (i := 1) (oi := _) (v := .pointer (some ⟨o.b, 0, none⟩)) rfl (by kernel_rfl) (by kernel_rfl) (by kernel_rfl) (fun _ _ _ h => h) (Or.inl ⟨by rfl, (by intro w hSw; obtain ⟨hs1, hs2, hs3⟩ := hSw; go_simp)⟩) (by assumption) ?_
  refine wpAnyH_take (i := 2) (oi := _) (v := .pointer (some ⟨o.b, 1, none⟩)) rfl (by kernel_rfl) (by kernel_rfl) (by kernel_rfl) (fun _ _ _ h => h) (Or.inl ⟨by rfl, (by intro w hSw; obtain ⟨hs1, hs2, hs3⟩ := hSw; go_simp)⟩) (by assumption) ?_
  go_simp
  refine wpAnyH_take (i := 3) (oi := _) (v := .slice ia o.its.length ic) rfl (by kernel_rfl) (by kernel_rfl) (by kernel_rfl) (fun _ _ _ h => h) (Or.inl ⟨by rfl, (by intro w hSw; obtain ⟨hs1, hs2, hs3⟩ := hSw; go_simp)⟩) (by assumption) ?_
  refine wpAnyH_take (i := 5) (oi := _) (v := .pointer (some ⟨o.b, 0, none⟩)) rfl (by kernel_rfl) (by kernel_rfl) (by kernel_rfl) (fun _ _ _ h => h) (Or.inl ⟨by rfl, (by intro w hSw; go_simp)⟩) (by assumption) ?_
  refine wpAnyH_take (i := 6) (oi := _) (v := .pointer (some ⟨o.b, 0, none⟩)) rfl (by kernel_rfl) (by kernel_rfl) (by kernel_rfl) (fun _ _ _ h => h) (Or.inl ⟨by rfl, (by intro w hSw; obtain ⟨hs1, hs2, hs3⟩ := hSw; go_simp)⟩) (by assumption) ?_
  go_simp
  refine wpAnyH_take (i := 7) (oi := _) (v := .pointer (some ⟨o.b, 0, none⟩)) rfl (by kernel_rfl) (by kernel_rfl) (by kernel_rfl) (fun _ _ _ h => h) (Or.inl ⟨by rfl, (by intro w hSw; obtain ⟨hs1, hs2, hs3⟩ := hSw; go_simp)⟩) (by assumption) ?_
  refine wpAnyH_take (i := 8) (oi := _) (v := .slice ka o.keys.length kc) rfl (by kernel_rfl) (by kernel_rfl) (by kernel_rfl) (fun _ _ _ h => h) (Or.inl ⟨by rfl, (by intro w hSw; obtain ⟨hs1, hs2, hs3⟩ := hSw; go_simp)⟩) (by assumption) ?_
  go_simp
  refine wpAnyH_ready (rs := [4]) (by kernel_rfl) (by simp) ?_
  refine AllReadyH.cons (o := _) rfl (fun K hK => ?_) AllReadyH.nil
  go_simp
  refine (unhide HCL _ (fun S => (Fr.refl S _).drew)).mono ?_
  rintro e1 w1 ⟨v1, rfl, g1, g2, g3⟩
  obtain ⟨va, vc, rfl, _⟩ := g1.shape
  have b1 : Below (w.alloc (.cells (objC 0 (.slice none 0 0) (.slice none 0 0)) 51)).heap.size (w.alloc (.cells (objC 0 (.slice none 0 0) (.slice none 0 0)) 51)) w1 := ((Below.refl _ _).drew).trans g2
  have S1 : w1.cell? ⟨o.b, 0, none⟩ = some (.slice ka o.keys.length kc) ∧ w1.cell? ⟨o.b, 1, none⟩ = some (.slice ia o.its.length ic) ∧ o.b < w1.heap.size := by
    have hl : o.b < (w.alloc (.cells (objC 0 (.slice none 0 0) (.slice none 0 0)) 51)).heap.size := by have := unhide hob; rw [unhide HZ]; omega
    exact ⟨(b1.cell (p := ⟨o.b, 0, none⟩) hl).trans hS.1, (b1.cell (p := ⟨o.b, 1, none⟩) hl).trans hS.2.1, Nat.lt_of_lt_of_le hl b1.size⟩
  have HG1 := hide (And.intro g1 (And.intro b1 (fun k (hk : (Value.slice va o.its.length vc).ownBlock = some k) => (show w.heap.size + 1 ≤ k by have := g3 k hk; have e := unhide HZ; rw [← e]; exact this))))
  have HS1 := hide S1
  clear g1 g2 g3 b1 S1
  go_simp
  refine hK.out _ _ (unhide HS1) (fun hHeld1 => ?_)
  clear hK K
  refine wpAnyH_ready (rs := [9]) (by kernel_rfl) (by simp) ?_
  refine AllReadyH.cons (o := _) rfl (fun K hK => ?_) AllReadyH.nil
  go_simp
  refine (unhide HKL w1 (unhide HG1).2.1).mono ?_
  rintro e2 w4 ⟨v2, rfl, k1, k2, k3⟩
  obtain ⟨ua, uc, rfl, _⟩ := k1.shape
  have b4 : Below (w.alloc (.cells (objC 0 (.slice none 0 0) (.slice none 0 0)) 51)).heap.size (w.alloc (.cells (objC 0 (.slice none 0 0) (.slice none 0 0)) 51)) w4 := (unhide HG1).2.1.trans (k2.mono (unhide HG1).2.1.size)
  have hO4 : Obx w4 w.heap.size 0 (.slice none 0 0) (.slice none 0 0) := (unhide HO).fr (Fr.of_below (S := fun _ => False) b4) (fun e => e)
  have S4 : w4.cell? ⟨o.b, 0, none⟩ = some (.slice ka o.keys.length kc) ∧ w4.cell? ⟨o.b, 1, none⟩ = some (.slice ia o.its.length ic) ∧ o.b < w4.heap.size := by
    have hl : o.b < (w.alloc (.cells (objC 0 (.slice none 0 0) (.slice none 0 0)) 51)).heap.size := by have := unhide hob; rw [unhide HZ]; omega
    exact ⟨(b4.cell (p := ⟨o.b, 0, none⟩) hl).trans hS.1, (b4.cell (p := ⟨o.b, 1, none⟩) hl).trans hS.2.1, Nat.lt_of_lt_of_le hl b4.size⟩
  obtain ⟨hZ, fz⟩ := hO4.set (k' := 7) (u1 := .slice va o.its.length vc) (u2 := .slice ua o.keys.length uc)
  have frk : Fr (fun _ => False) w1 w4 := Fr.of_below k2
  have kge : ∀ k, (Value.slice ua o.keys.length uc).ownBlock = some k → w.heap.size + 1 ≤ k := fun k hk => by
    have h5 := k3 k hk
    have h6 := (unhide HG1).2.1.size
    rw [unhide HZ] at h6
    omega
  have hGw : Gw w o.its (.slice va o.its.length vc) (w4.setCells w.heap.size 0 (objL 7 (.slice va o.its.length vc) (.slice ua o.keys.length uc))) := by
    refine ⟨((unhide HG1).1.fr frk (fun _ _ e => e)).fr fz (fun k hk e => ?_), ((unhide HB).trans (b4.mono (by rw [unhide HZ]; omega))).trans (fz.below (by have := b4.size; rw [unhide HZ] at this; omega) (fun k hk e => by omega)), fun k hk => ?_⟩
    · have := (unhide HG1).2.2 k hk; omega
    · have := (unhide HG1).2.2 k hk; omega
  have hGk : Gk w o.keys (.slice ua o.keys.length uc) (w4.setCells w.heap.size 0 (objL 7 (.slice va o.its.length vc) (.slice ua o.keys.length uc))) := by
    refine ⟨k1.fr fz (fun k hk e => by have := kge k hk; omega), hGw.2.1, fun k hk => by have := kge k hk; omega⟩
  have S5 : (w4.setCells w.heap.size 0 (objL 7 (.slice va o.its.length vc) (.slice ua o.keys.length uc))).cell? ⟨o.b, 0, none⟩ = some (.slice ka o.keys.length kc) ∧ (w4.setCells w.heap.size 0 (objL 7 (.slice va o.its.length vc) (.slice ua o.keys.length uc))).cell? ⟨o.b, 1, none⟩ = some (.slice ia o.its.length ic) ∧ o.b < (w4.setCells w.heap.size 0 (objL 7 (.slice va o.its.length vc) (.slice ua o.keys.length uc))).heap.size := by
    have hne : ¬ o.b = w.heap.size := by have := unhide hob; omega
    exact ⟨(fz.cell (a := ⟨o.b, 0, none⟩) S4.2.2 hne).trans S4.1, (fz.cell (a := ⟨o.b, 1, none⟩) S4.2.2 hne).trans S4.2.1, Nat.lt_of_lt_of_le S4.2.2 fz.size⟩
  have HS4 := hide S4
  have HS5 : Hid (((((((w4.setCell ⟨w.heap.size, 0, none⟩ (.int .i64 7)).setCell ⟨w.heap.size, 1, none⟩ ((.slice va o.its.length vc))).setCell ⟨w.heap.size, 2, none⟩ ((.slice ua o.keys.length uc))).setCell ⟨w.heap.size, 3, none⟩ (.int .i64 0)).setCell ⟨w.heap.size, 4, none⟩ (.int .i64 0)).setCell ⟨w.heap.size, 5, none⟩ (.bool false)).cell? ⟨o.b, 0, none⟩ = some (.slice ka o.keys.length kc) ∧ ((((((w4.setCell ⟨w.heap.size, 0, none⟩ (.int .i64 7)).setCell ⟨w.heap.size, 1, none⟩ ((.slice va o.its.length vc))).setCell ⟨w.heap.size, 2, none⟩ ((.slice ua o.keys.length uc))).setCell ⟨w.heap.size, 3, none⟩ (.int .i64 0)).setCell ⟨w.heap.size, 4, none⟩ (.int .i64 0)).setCell ⟨w.heap.size, 5, none⟩ (.bool false)).cell? ⟨o.b, 1, none⟩ = some (.slice ia o.its.length ic) ∧ o.b < ((((((w4.setCell ⟨w.heap.size, 0, none⟩ (.int .i64 7)).setCell ⟨w.heap.size, 1, none⟩ ((.slice va o.its.length vc))).setCell ⟨w.heap.size, 2, none⟩ ((.slice ua o.keys.length uc))).setCell ⟨w.heap.size, 3, none⟩ (.int .i64 0)).setCell ⟨w.heap.size, 4, none⟩ (.int .i64 0)).setCell ⟨w.heap.size, 5, none⟩ (.bool false)).heap.size) := S5
  have zf := hO4.2
  have t0 := hO4.1 0 (by omega)
  have t1 := hO4.1 1 (by omega)
  have t2 := hO4.1 2 (by omega)
  have t3 := hO4.1 3 (by omega)
  have t4 := hO4.1 4 (by omega)
  have t5 := hO4.1 5 (by omega)
  simp only [objL, List.getElem_cons_zero, List.getElem_cons_succ] at t0 t1 t2 t3 t4 t5
  have hq4 : w.heap.size < w4.heap.size := hO4.lt
  have HZF := hide (And.intro hZ (And.intro hGw hGk))
  clear hGw hGk S5 S4 hZ fz frk kge hO4 b4 k1 k2 k3
  go_simp
  refine hK.out _ _ (unhide HS4) (fun hHeld4 => ?_)
  clear hK K
  refine wpAnyH_take (i := 10) (oi := _) (v := .agg #[.int .i64 7, .slice va o.its.length vc, .slice ua o.keys.length uc, .int .i64 0, .int .i64 0, .bool false]) rfl (by kernel_rfl) (by kernel_rfl) (by kernel_rfl) (fun _ _ _ h => h) (Or.inl ⟨by rfl, (by intro w hSw; go_simp)⟩) (by assumption) ?_
  go_simp
  refine wpAnyH_ready (rs := [11]) (by kernel_rfl) (by simp) ?_
  refine AllReadyH.cons (o := _) rfl (fun K hK => ?_) AllReadyH.nil
  go_simp
  refine hK.out _ _ (unhide HS5) (fun hHeld5 => ?_)
  clear hK K
  refine wpAnyH_done (by kernel_rfl) ?_ _
  clear hHeld hHeld1 hHeld4 hHeld5 hS t0 t1 t2 t3 t4 t5 zf hq4
  go_wp2_with fail
  show bodyPost Try.prog Try.f88 _ Exit.ret _ (w4.setCells w.heap.size 0 (objL 7 (.slice va o.its.length vc) (.slice ua o.keys.length uc)))
  obtain ⟨hZ, hGw, hGk⟩ := unhide HZF
  clear HZF HS5 HS4 HS1
  generalize w4.setCells w.heap.size 0 (objL 7 (.slice va o.its.length vc) (.slice ua o.keys.length uc)) = W8 at *
  have z0 := hZ.1 0 (by omega)
  have z1 := hZ.1 1 (by omega)
  have z2 := hZ.1 2 (by omega)
  have z3 := hZ.1 3 (by omega)
  have z4 := hZ.1 4 (by omega)
  have z5 := hZ.1 5 (by omega)
  simp only [objL, List.getElem_cons_zero, List.getElem_cons_succ] at z0 z1 z2 z3 z4 z5
  refine bodyPost_ret (v := .agg (objC 7 (.slice va o.its.length vc) (.slice ua o.keys.length uc))) (by simp [results, Try.results88, go_sem, objC, z0, z1, z2, z3, z4, z5]) rfl ?_
  exact ⟨_, _, rfl, hGw, hGk⟩
end Go.Proofs.Ytfoanikkngmeiaa.hp
