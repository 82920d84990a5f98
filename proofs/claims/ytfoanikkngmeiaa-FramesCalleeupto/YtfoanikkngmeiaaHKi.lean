/-
  What the program tells of an array, a bound function, a channel.
-/
import Derived.Test.YtfoanikkngmeiaaHTo
namespace Go.Proofs.Ytfoanikkngmeiaa.hp
open Go.RowKit
set_option linter.unusedVariables false
set_option linter.unusedSimpArgs false

/-- A box of six cells. -/
def sixL (x0 x1 x2 x3 x4 x5 : Value) : List Value := [x0, x1, x2, x3, x4, x5]
def Six (w : World) (b : Nat) (x0 x1 x2 x3 x4 x5 : Value) : Prop := (∀ j (hj : j < 6), w.cell? ⟨b, j, none⟩ = some ((sixL x0 x1 x2 x3 x4 x5)[j]'hj)) ∧ ∀ j, w.frozen? ⟨b, j, none⟩ = false
theorem Six.new (w : World) (x0 x1 x2 x3 x4 x5 : Value) (t : TypeId) : Six (w.alloc (.cells #[x0, x1, x2, x3, x4, x5] t)) w.heap.size x0 x1 x2 x3 x4 x5 := by
  have hg := heap_alloc_new w (.cells #[x0, x1, x2, x3, x4, x5] t)
  refine ⟨fun j hj => ?_, fun j => frozen_new _ _ _ _⟩
  simp only [World.cell?, hg]
  show (#[x0, x1, x2, x3, x4, x5])[j]? = _
  have : (#[x0, x1, x2, x3, x4, x5]).toList = sixL x0 x1 x2 x3 x4 x5 := rfl
  rw [← Array.getElem?_toList, this]
  exact List.getElem?_eq_getElem hj
theorem Six.lt {w : World} {b : Nat} {x0 x1 x2 x3 x4 x5 : Value} (h : Six w b x0 x1 x2 x3 x4 x5) : b < w.heap.size := World.block_lt_of_cell? _ _ (h.1 0 (by omega))
theorem Six.fr {S : Nat → Prop} {w w' : World} {b : Nat} {x0 x1 x2 x3 x4 x5 : Value} (h : Six w b x0 x1 x2 x3 x4 x5) (f : Fr S w w') (hn : ¬ S b) : Six w' b x0 x1 x2 x3 x4 x5 :=
  ⟨fun j hj => (f.cell (a := ⟨b, j, none⟩) h.lt hn).trans (h.1 j hj), fun j => (f.frozen (a := ⟨b, j, none⟩) h.lt hn).trans (h.2 j)⟩
theorem Six.set {w : World} {b : Nat} {x0 x1 x2 x3 x4 x5 : Value} (h : Six w b x0 x1 x2 x3 x4 x5) (y0 y1 y2 y3 y4 y5 : Value) : Six (w.setCells b 0 (sixL y0 y1 y2 y3 y4 y5)) b y0 y1 y2 y3 y4 y5 ∧ Fr (fun q => q = b) w (w.setCells b 0 (sixL y0 y1 y2 y3 y4 y5)) := by
  refine ⟨⟨fun j hj => ?_, fun j => by rw [World.frozen?_setCells]; exact h.2 j⟩, ?_⟩
  · have := World.cell?_setCells_in b (sixL y0 y1 y2 y3 y4 y5) 0 w (fun i hi => by rw [Nat.zero_add, h.1 i hi]; rfl) j hj
    rw [Nat.zero_add] at this
    exact this
  · obtain ⟨r1, r2, r3⟩ := setCells_rest b (sixL y0 y1 y2 y3 y4 y5) 0 w
    exact ⟨r1, r2, r3, by rw [setCells_size]; exact Nat.le_refl _, fun i _ hi => setCells_other b i hi _ _ w⟩
set_option maxRecDepth 100000 in
set_option maxHeartbeats 6400000 in
theorem told6_any {w : World} {o : OD} (hok : o.ok w) (hk : o.k = 6) (h1 : o.its.length ≤ 4096) :
    Calls Try.prog 84 #[.pointer (some ⟨o.b, 0, none⟩)] w fun e w' => ∃ v1, e = .returned (.agg #[.int .i64 6, v1, .slice none 0 0, .int .i64 0, .int .i64 0, .bool false]) ∧ Gw w o.its v1 w' := by
  have hB : Below w.heap.size w (w.alloc (.cells #[.int .i64 0, .slice none 0 0, .slice none 0 0, .int .i64 0, .int .i64 0, .bool false] 51)) := (Below.refl _ _).alloc (Nat.le_refl _) _
  have hz : (w.alloc (.cells #[.int .i64 0, .slice none 0 0, .slice none 0 0, .int .i64 0, .int .i64 0, .bool false] 51)).heap.size = w.heap.size + 1 := by simp
  have hok0 : o.ok (w.alloc (.cells #[.int .i64 0, .slice none 0 0, .slice none 0 0, .int .i64 0, .int .i64 0, .bool false] 51)) := hok.keep (Fr.of_below (S := fun _ => False) hB) (fun _ _ e => e)
  have O0 := Six.new w (.int .i64 0) (.slice none 0 0) (.slice none 0 0) (.int .i64 0) (.int .i64 0) (.bool false) 51
  have c0 := hok0.cell 0 o.iv (by simp [OD.cells, hk])
  obtain ⟨ia, ic, ie, _⟩ := hok0.items.shape
  have hbl : o.b < (w.alloc (.cells #[.int .i64 0, .slice none 0 0, .slice none 0 0, .int .i64 0, .int .i64 0, .bool false] 51)).heap.size := hok0.lt _ (.inl rfl)
  have HCL : Hid (∀ W, (∀ S, Fr S (w.alloc (.cells #[.int .i64 0, .slice none 0 0, .slice none 0 0, .int .i64 0, .int .i64 0, .bool false] 51)) W) → Calls Try.prog 37 #[.slice ia o.its.length ic] W fun e w' => ∃ v', e = .returned v' ∧ Gw W o.its v' w') := fun W f => by
    have := clone_all (hok0.items.fr (f (fun _ => False)) (fun _ _ e => e)) h1
    rw [ie] at this
    exact this
  rw [ie] at c0
  have HO := hide O0
  have HB := hide hB
  have HZ := hide hz
  have hob : Hid (o.b < w.heap.size) := hok.lt _ (.inl rfl)
  clear hok hok0 O0 hB hz ie
  go_enter Try.func84, Try.ntmps84
  go_wp2_with fail
  refine (unhide HCL _ (fun S => Fr.refl S _)).mono ?_
  rintro e1 w1 ⟨v1, rfl, g1, g2, g3⟩
  have hzz := unhide HZ
  have hO1 := (unhide HO).fr (Fr.of_below (S := fun _ => False) g2) (fun e => e)
  have hw1 : w.heap.size < w1.heap.size := hO1.lt
  have sf := hO1.2
  have s0 := hO1.1 0 (by omega)
  have s1 := hO1.1 1 (by omega)
  have s2 := hO1.1 2 (by omega)
  have s3 := hO1.1 3 (by omega)
  have s4 := hO1.1 4 (by omega)
  have s5 := hO1.1 5 (by omega)
  simp only [sixL, List.getElem_cons_zero, List.getElem_cons_succ] at s0 s1 s2 s3 s4 s5
  obtain ⟨va, vc, rfl, _⟩ := g1.shape
  obtain ⟨hZ, fz⟩ := hO1.set (.int .i64 6) (.slice va o.its.length vc) (.slice none 0 0) (.int .i64 0) (.int .i64 0) (.bool false)
  have hGw : Gw w o.its (.slice va o.its.length vc) (w1.setCells w.heap.size 0 (sixL (.int .i64 6) (.slice va o.its.length vc) (.slice none 0 0) (.int .i64 0) (.int .i64 0) (.bool false))) := by
    refine ⟨g1.fr fz (fun k hk e => ?_), ((unhide HB).trans (g2.mono (by rw [unhide HZ]; omega))).trans (fz.below (by have := g2.size; rw [unhide HZ] at this; omega) (fun k hk e => by omega)), fun k hk => ?_⟩
    · have := g3 k hk; rw [hzz] at this; omega
    · have := g3 k hk; rw [hzz] at this; omega
  have HZF := hide (And.intro hZ hGw)
  clear g1 g2 g3 hO1 hZ hGw fz
  go_wp2_with fail
  show bodyPost Try.prog Try.f84 _ Exit.ret _ (w1.setCells w.heap.size 0 (sixL (.int .i64 6) (.slice va o.its.length vc) (.slice none 0 0) (.int .i64 0) (.int .i64 0) (.bool false)))
  obtain ⟨hZ, hGw⟩ := unhide HZF
  clear HZF
  generalize w1.setCells w.heap.size 0 (sixL (.int .i64 6) (.slice va o.its.length vc) (.slice none 0 0) (.int .i64 0) (.int .i64 0) (.bool false)) = W8 at *
  have z0 := hZ.1 0 (by omega)
  have z1 := hZ.1 1 (by omega)
  have z2 := hZ.1 2 (by omega)
  have z3 := hZ.1 3 (by omega)
  have z4 := hZ.1 4 (by omega)
  have z5 := hZ.1 5 (by omega)
  simp only [sixL, List.getElem_cons_zero, List.getElem_cons_succ] at z0 z1 z2 z3 z4 z5
  refine bodyPost_ret (v := .agg #[(.int .i64 6), (.slice va o.its.length vc), (.slice none 0 0), (.int .i64 0), (.int .i64 0), (.bool false)]) (by simp [results, Try.results84, go_sem, z0, z1, z2, z3, z4, z5]) rfl ?_
  exact ⟨_, rfl, hGw⟩
set_option maxRecDepth 100000 in
set_option maxHeartbeats 6400000 in
theorem told8_any {w : World} {o : OD} (hok : o.ok w) (hk : o.k = 8) (h1 : o.its.length ≤ 4096) :
    Calls Try.prog 92 #[.pointer (some ⟨o.b, 0, none⟩)] w fun e w' => ∃ v1, e = .returned (.agg #[.int .i64 8, v1, .slice none 0 0, .int .i64 o.m, .int .i64 0, .bool false]) ∧ Gw w o.its v1 w' := by
  have hB : Below w.heap.size w (w.alloc (.cells #[.int .i64 0, .slice none 0 0, .slice none 0 0, .int .i64 0, .int .i64 0, .bool false] 51)) := (Below.refl _ _).alloc (Nat.le_refl _) _
  have hz : (w.alloc (.cells #[.int .i64 0, .slice none 0 0, .slice none 0 0, .int .i64 0, .int .i64 0, .bool false] 51)).heap.size = w.heap.size + 1 := by simp
  have hok0 : o.ok (w.alloc (.cells #[.int .i64 0, .slice none 0 0, .slice none 0 0, .int .i64 0, .int .i64 0, .bool false] 51)) := hok.keep (Fr.of_below (S := fun _ => False) hB) (fun _ _ e => e)
  have O0 := Six.new w (.int .i64 0) (.slice none 0 0) (.slice none 0 0) (.int .i64 0) (.int .i64 0) (.bool false) 51
  have c0 := hok0.cell 0 (.int .i64 o.m) (by simp [OD.cells, hk])
  have c1 := hok0.cell 1 o.iv (by simp [OD.cells, hk])
  obtain ⟨ia, ic, ie, _⟩ := hok0.items.shape
  have hbl : o.b < (w.alloc (.cells #[.int .i64 0, .slice none 0 0, .slice none 0 0, .int .i64 0, .int .i64 0, .bool false] 51)).heap.size := hok0.lt _ (.inl rfl)
  have HCL : Hid (∀ W, (∀ S, Fr S (w.alloc (.cells #[.int .i64 0, .slice none 0 0, .slice none 0 0, .int .i64 0, .int .i64 0, .bool false] 51)) W) → Calls Try.prog 37 #[.slice ia o.its.length ic] W fun e w' => ∃ v', e = .returned v' ∧ Gw W o.its v' w') := fun W f => by
    have := clone_all (hok0.items.fr (f (fun _ => False)) (fun _ _ e => e)) h1
    rw [ie] at this
    exact this
  rw [ie] at c1
  have HO := hide O0
  have HB := hide hB
  have HZ := hide hz
  have hob : Hid (o.b < w.heap.size) := hok.lt _ (.inl rfl)
  clear hok hok0 O0 hB hz ie
  go_enter Try.func92, Try.ntmps92
  have hS : (w.alloc (.cells #[.int .i64 0, .slice none 0 0, .slice none 0 0, .int .i64 0, .int .i64 0, .bool false] 51)).cell? ⟨o.b, 0, none⟩ = some (.int .i64 o.m) ∧ (w.alloc (.cells #[.int .i64 0, .slice none 0 0, .slice none 0 0, .int .i64 0, .int .i64 0, .bool false] 51)).cell? ⟨o.b, 1, none⟩ = some (.slice ia o.its.length ic) ∧ o.b < (w.alloc (.cells #[.int .i64 0, .slice none 0 0, .slice none 0 0, .int .i64 0, .int .i64 0, .bool false] 51)).heap.size := ⟨c0, c1, hbl⟩
  clear c0 c1 hbl
  go_wp2_with fail
  refine wp_region_held_drew (S := (fun wx => wx.cell? ⟨o.b, 0, none⟩ = some (.int .i64 o.m) ∧ wx.cell? ⟨o.b, 1, none⟩ = some (.slice ia o.its.length ic) ∧ o.b < wx.heap.size)) (by kernel_rfl) hS (fun hHeld => ?_)
  refine wpAnyH_take (i := 0) (oi := _) (v := .pointer (some ⟨o.b, 0, none⟩)) rfl (by kernel_rfl) (by kernel_rfl) (by kernel_rfl) (fun _ _ _ h => h) (Or.inl ⟨by rfl, (by intro w hSw; go_simp)⟩) (by assumption) ?_
  refine wpAnyH_take (i := 1) (oi := _) (v := .pointer (some ⟨o.b, 0, none⟩)) rfl (by kernel_rfl) (by kernel_rfl) (by kernel_rfl) (fun _ _ _ h => h) (Or.inl ⟨by rfl, (by intro w hSw; obtain ⟨hs0, hs1, hs2⟩ := hSw; go_simp)⟩) (by assumption) ?_
  refine wpAnyH_take (i := 2) (oi := _) (v := .pointer (some ⟨o.b, 1, none⟩)) rfl (by kernel_rfl) (by kernel_rfl) (by kernel_rfl) (fun _ _ _ h => h) (Or.inl ⟨by rfl, (by intro w hSw; obtain ⟨hs0, hs1, hs2⟩ := hSw; go_simp)⟩) (by assumption) ?_
  go_simp
  refine wpAnyH_take (i := 3) (oi := _) (v := .slice ia o.its.length ic) rfl (by kernel_rfl) (by kernel_rfl) (by kernel_rfl) (fun _ _ _ h => h) (Or.inl ⟨by rfl, (by intro w hSw; obtain ⟨hs0, hs1, hs2⟩ := hSw; go_simp)⟩) (by assumption) ?_
  refine wpAnyH_take (i := 5) (oi := _) (v := .pointer (some ⟨o.b, 0, none⟩)) rfl (by kernel_rfl) (by kernel_rfl) (by kernel_rfl) (fun _ _ _ h => h) (Or.inl ⟨by rfl, (by intro w hSw; go_simp)⟩) (by assumption) ?_
  refine wpAnyH_take (i := 6) (oi := _) (v := .pointer (some ⟨o.b, 0, none⟩)) rfl (by kernel_rfl) (by kernel_rfl) (by kernel_rfl) (fun _ _ _ h => h) (Or.inl ⟨by rfl, (by intro w hSw; obtain ⟨hs0, hs1, hs2⟩ := hSw; go_simp)⟩) (by assumption) ?_
  go_simp
  refine wpAnyH_take (i := 7) (oi := _) (v := .pointer (some ⟨o.b, 0, none⟩)) rfl (by kernel_rfl) (by kernel_rfl) (by kernel_rfl) (fun _ _ _ h => h) (Or.inl ⟨by rfl, (by intro w hSw; obtain ⟨hs0, hs1, hs2⟩ := hSw; go_simp)⟩) (by assumption) ?_
  refine wpAnyH_take (i := 8) (oi := _) (v := .int .i64 o.m) rfl (by kernel_rfl) (by kernel_rfl) (by kernel_rfl) (fun _ _ _ h => h) (Or.inl ⟨by rfl, (by intro w hSw; obtain ⟨hs0, hs1, hs2⟩ := hSw; go_simp)⟩) (by assumption) ?_
  go_simp
  refine wpAnyH_ready (rs := [4]) (by kernel_rfl) (by simp) ?_
  refine AllReadyH.cons (o := _) rfl (fun K hK => ?_) AllReadyH.nil
  go_simp
  refine (unhide HCL _ (fun S => (Fr.refl S _).drew)).mono ?_
  rintro e1 w1 ⟨v1, rfl, g1, g2, g3⟩
  obtain ⟨va, vc, rfl, _⟩ := g1.shape
  have hzz : ((w.alloc (.cells #[.int .i64 0, .slice none 0 0, .slice none 0 0, .int .i64 0, .int .i64 0, .bool false] 51)).drew).heap.size = w.heap.size + 1 := by simp
  have b1 : Below (w.alloc (.cells #[.int .i64 0, .slice none 0 0, .slice none 0 0, .int .i64 0, .int .i64 0, .bool false] 51)).heap.size (w.alloc (.cells #[.int .i64 0, .slice none 0 0, .slice none 0 0, .int .i64 0, .int .i64 0, .bool false] 51)) w1 := ((Below.refl _ _).drew).trans g2
  have hl : o.b < (w.alloc (.cells #[.int .i64 0, .slice none 0 0, .slice none 0 0, .int .i64 0, .int .i64 0, .bool false] 51)).heap.size := by have := unhide hob; rw [unhide HZ]; omega
  have S1 : w1.cell? ⟨o.b, 0, none⟩ = some (.int .i64 o.m) ∧ w1.cell? ⟨o.b, 1, none⟩ = some (.slice ia o.its.length ic) ∧ o.b < w1.heap.size := ⟨(b1.cell (p := ⟨o.b, 0, none⟩) hl).trans hS.1, (b1.cell (p := ⟨o.b, 1, none⟩) hl).trans hS.2.1, Nat.lt_of_lt_of_le hl b1.size⟩
  have hO1 := (unhide HO).fr (Fr.of_below (S := fun _ => False) b1) (fun e => e)
  have hw1 : w.heap.size < w1.heap.size := hO1.lt
  have sf := hO1.2
  have s0 := hO1.1 0 (by omega)
  have s1 := hO1.1 1 (by omega)
  have s2 := hO1.1 2 (by omega)
  have s3 := hO1.1 3 (by omega)
  have s4 := hO1.1 4 (by omega)
  have s5 := hO1.1 5 (by omega)
  simp only [sixL, List.getElem_cons_zero, List.getElem_cons_succ] at s0 s1 s2 s3 s4 s5
  obtain ⟨hZ, fz⟩ := hO1.set (.int .i64 8) (.slice va o.its.length vc) (.slice none 0 0) (.int .i64 o.m) (.int .i64 0) (.bool false)
  have hGw : Gw w o.its (.slice va o.its.length vc) (w1.setCells w.heap.size 0 (sixL (.int .i64 8) (.slice va o.its.length vc) (.slice none 0 0) (.int .i64 o.m) (.int .i64 0) (.bool false))) := by
    refine ⟨g1.fr fz (fun k hk e => ?_), ((unhide HB).trans (b1.mono (by rw [unhide HZ]; omega))).trans (fz.below (by have := b1.size; rw [unhide HZ] at this; omega) (fun k hk e => by omega)), fun k hk => ?_⟩
    · have := g3 k hk; rw [hzz] at this; omega
    · have := g3 k hk; rw [hzz] at this; omega
  have hne : ¬ o.b = w.heap.size := by have := unhide hob; omega
  have S5 : (w1.setCells w.heap.size 0 (sixL (.int .i64 8) (.slice va o.its.length vc) (.slice none 0 0) (.int .i64 o.m) (.int .i64 0) (.bool false))).cell? ⟨o.b, 0, none⟩ = some (.int .i64 o.m) ∧ (w1.setCells w.heap.size 0 (sixL (.int .i64 8) (.slice va o.its.length vc) (.slice none 0 0) (.int .i64 o.m) (.int .i64 0) (.bool false))).cell? ⟨o.b, 1, none⟩ = some (.slice ia o.its.length ic) ∧ o.b < (w1.setCells w.heap.size 0 (sixL (.int .i64 8) (.slice va o.its.length vc) (.slice none 0 0) (.int .i64 o.m) (.int .i64 0) (.bool false))).heap.size := ⟨(fz.cell (a := ⟨o.b, 0, none⟩) S1.2.2 hne).trans S1.1, (fz.cell (a := ⟨o.b, 1, none⟩) S1.2.2 hne).trans S1.2.1, Nat.lt_of_lt_of_le S1.2.2 fz.size⟩
  have HS1 := hide S1
  have HS5 := hide S5
  have HZF := hide (And.intro hZ hGw)
  clear g1 g2 g3 hO1 hZ hGw fz b1 hl S1 S5 hne
  go_simp
  refine hK.out _ _ (unhide HS1) (fun hHeld1 => ?_)
  clear hK K
  refine wpAnyH_take (i := 9) (oi := _) (v := .agg #[(.int .i64 8), (.slice va o.its.length vc), (.slice none 0 0), (.int .i64 o.m), (.int .i64 0), (.bool false)]) rfl (by kernel_rfl) (by kernel_rfl) (by kernel_rfl) (fun _ _ _ h => h) (Or.inl ⟨by rfl, (by intro w hSw; go_simp)⟩) (by assumption) ?_
  go_simp
  refine wpAnyH_ready (rs := [10]) (by kernel_rfl) (by simp) ?_
  refine AllReadyH.cons (o := _) rfl (fun K hK => ?_) AllReadyH.nil
  go_simp
  refine hK.out _ _ (unhide HS5) (fun hHeld5 => ?_)
  clear hK K
  refine wpAnyH_done (by kernel_rfl) ?_ _
  clear hHeld hHeld1 hHeld5 hS s0 s1 s2 s3 s4 s5 sf hw1
  go_wp2_with fail
  show bodyPost Try.prog Try.f92 _ Exit.ret _ (w1.setCells w.heap.size 0 (sixL (.int .i64 8) (.slice va o.its.length vc) (.slice none 0 0) (.int .i64 o.m) (.int .i64 0) (.bool false)))
  obtain ⟨hZ, hGw⟩ := unhide HZF
  clear HZF
  generalize w1.setCells w.heap.size 0 (sixL (.int .i64 8) (.slice va o.its.length vc) (.slice none 0 0) (.int .i64 o.m) (.int .i64 0) (.bool false)) = W8 at *
  have z0 := hZ.1 0 (by omega)
  have z1 := hZ.1 1 (by omega)
  have z2 := hZ.1 2 (by omega)
  have z3 := hZ.1 3 (by omega)
  have z4 := hZ.1 4 (by omega)
  have z5 := hZ.1 5 (by omega)
  simp only [sixL, List.getElem_cons_zero, List.getElem_cons_succ] at z0 z1 z2 z3 z4 z5
  refine bodyPost_ret (v := .agg #[(.int .i64 8), (.slice va o.its.length vc), (.slice none 0 0), (.int .i64 o.m), (.int .i64 0), (.bool false)]) (by simp [results, Try.results92, go_sem, z0, z1, z2, z3, z4, z5]) rfl ?_
  exact ⟨_, rfl, hGw⟩
set_option maxRecDepth 100000 in
set_option maxHeartbeats 6400000 in
theorem told9_any {w : World} {o : OD} (hok : o.ok w) (hk : o.k = 9) (h1 : o.its.length ≤ 4096) :
    Calls Try.prog 96 #[.pointer (some ⟨o.b, 0, none⟩)] w fun e w' => ∃ v1, e = .returned (.agg #[.int .i64 9, v1, .slice none 0 0, .int .i64 0, .int .i64 o.m, .bool o.shut]) ∧ Gw w o.its v1 w' := by
  have hB : Below w.heap.size w (w.alloc (.cells #[.int .i64 0, .slice none 0 0, .slice none 0 0, .int .i64 0, .int .i64 0, .bool false] 51)) := (Below.refl _ _).alloc (Nat.le_refl _) _
  have hz : (w.alloc (.cells #[.int .i64 0, .slice none 0 0, .slice none 0 0, .int .i64 0, .int .i64 0, .bool false] 51)).heap.size = w.heap.size + 1 := by simp
  have hok0 : o.ok (w.alloc (.cells #[.int .i64 0, .slice none 0 0, .slice none 0 0, .int .i64 0, .int .i64 0, .bool false] 51)) := hok.keep (Fr.of_below (S := fun _ => False) hB) (fun _ _ e => e)
  have O0 := Six.new w (.int .i64 0) (.slice none 0 0) (.slice none 0 0) (.int .i64 0) (.int .i64 0) (.bool false) 51
  have c0 := hok0.cell 0 (.int .i64 o.m) (by simp [OD.cells, hk])
  have c1 := hok0.cell 1 o.iv (by simp [OD.cells, hk])
  have c2 := hok0.cell 2 (.bool o.shut) (by simp [OD.cells, hk])
  obtain ⟨ia, ic, ie, _⟩ := hok0.items.shape
  have hbl : o.b < (w.alloc (.cells #[.int .i64 0, .slice none 0 0, .slice none 0 0, .int .i64 0, .int .i64 0, .bool false] 51)).heap.size := hok0.lt _ (.inl rfl)
  have HCL : Hid (∀ W, (∀ S, Fr S (w.alloc (.cells #[.int .i64 0, .slice none 0 0, .slice none 0 0, .int .i64 0, .int .i64 0, .bool false] 51)) W) → Calls Try.prog 37 #[.slice ia o.its.length ic] W fun e w' => ∃ v', e = .returned v' ∧ Gw W o.its v' w') := fun W f => by
    have := clone_all (hok0.items.fr (f (fun _ => False)) (fun _ _ e => e)) h1
    rw [ie] at this
    exact this
  rw [ie] at c1
  have HO := hide O0
  have HB := hide hB
  have HZ := hide hz
  have hob : Hid (o.b < w.heap.size) := hok.lt _ (.inl rfl)
  clear hok hok0 O0 hB hz ie
  go_enter Try.func96, Try.ntmps96
  have hS : (w.alloc (.cells #[.int .i64 0, .slice none 0 0, .slice none 0 0, .int .i64 0, .int .i64 0, .bool false] 51)).cell? ⟨o.b, 0, none⟩ = some (.int .i64 o.m) ∧ (w.alloc (.cells #[.int .i64 0, .slice none 0 0, .slice none 0 0, .int .i64 0, .int .i64 0, .bool false] 51)).cell? ⟨o.b, 1, none⟩ = some (.slice ia o.its.length ic) ∧ (w.alloc (.cells #[.int .i64 0, .slice none 0 0, .slice none 0 0, .int .i64 0, .int .i64 0, .bool false] 51)).cell? ⟨o.b, 2, none⟩ = some (.bool o.shut) ∧ o.b < (w.alloc (.cells #[.int .i64 0, .slice none 0 0, .slice none 0 0, .int .i64 0, .int .i64 0, .bool false] 51)).heap.size := ⟨c0, c1, c2, hbl⟩
  clear c0 c1 c2 hbl
  go_wp2_with fail
  refine wp_region_held_drew (S := (fun wx => wx.cell? ⟨o.b, 0, none⟩ = some (.int .i64 o.m) ∧ wx.cell? ⟨o.b, 1, none⟩ = some (.slice ia o.its.length ic) ∧ wx.cell? ⟨o.b, 2, none⟩ = some (.bool o.shut) ∧ o.b < wx.heap.size)) (by kernel_rfl) hS (fun hHeld => ?_)
  refine wpAnyH_take (i := 0) (oi := _) (v := .pointer (some ⟨o.b, 0, none⟩)) rfl (by kernel_rfl) (by kernel_rfl) (by kernel_rfl) (fun _ _ _ h => h) (Or.inl ⟨by rfl, (by intro w hSw; go_simp)⟩) (by assumption) ?_
  refine wpAnyH_take (i := 1) (oi := _) (v := .pointer (some ⟨o.b, 0, none⟩)) rfl (by kernel_rfl) (by kernel_rfl) (by kernel_rfl) (fun _ _ _ h => h) (Or.inl ⟨by rfl, (by intro w hSw; obtain ⟨hs0, hs1, hs2, hs3⟩ := hSw; go_simp)⟩) (by assumption) ?_
  refine wpAnyH_take (i := 2) (oi := _) (v := .pointer (some ⟨o.b, 1, none⟩)) rfl (by kernel_rfl) (by kernel_rfl) (by kernel_rfl) (fun _ _ _ h => h) (Or.inl ⟨by rfl, (by intro w hSw; obtain ⟨hs0, hs1, hs2, hs3⟩ := hSw; go_simp)⟩) (by assumption) ?_
  go_simp
  refine wpAnyH_take (i := 3) (oi := _) (v := .slice ia o.its.length ic) rfl (by kernel_rfl) (by kernel_rfl) (by kernel_rfl) (fun _ _ _ h => h) (Or.inl ⟨by rfl, (by intro w hSw; obtain ⟨hs0, hs1, hs2, hs3⟩ := hSw; go_simp)⟩) (by assumption) ?_
  refine wpAnyH_take (i := 5) (oi := _) (v := .pointer (some ⟨o.b, 0, none⟩)) rfl (by kernel_rfl) (by kernel_rfl) (by kernel_rfl) (fun _ _ _ h => h) (Or.inl ⟨by rfl, (by intro w hSw; go_simp)⟩) (by assumption) ?_
  refine wpAnyH_take (i := 6) (oi := _) (v := .pointer (some ⟨o.b, 0, none⟩)) rfl (by kernel_rfl) (by kernel_rfl) (by kernel_rfl) (fun _ _ _ h => h) (Or.inl ⟨by rfl, (by intro w hSw; obtain ⟨hs0, hs1, hs2, hs3⟩ := hSw; go_simp)⟩) (by assumption) ?_
  go_simp
  refine wpAnyH_take (i := 7) (oi := _) (v := .pointer (some ⟨o.b, 0, none⟩)) rfl (by kernel_rfl) (by kernel_rfl) (by kernel_rfl) (fun _ _ _ h => h) (Or.inl ⟨by rfl, (by intro w hSw; obtain ⟨hs0, hs1, hs2, hs3⟩ := hSw; go_simp)⟩) (by assumption) ?_
  refine wpAnyH_take (i := 8) (oi := _) (v := .int .i64 o.m) rfl (by kernel_rfl) (by kernel_rfl) (by kernel_rfl) (fun _ _ _ h => h) (Or.inl ⟨by rfl, (by intro w hSw; obtain ⟨hs0, hs1, hs2, hs3⟩ := hSw; go_simp)⟩) (by assumption) ?_
  refine wpAnyH_take (i := 9) (oi := _) (v := .pointer (some ⟨o.b, 0, none⟩)) rfl (by kernel_rfl) (by kernel_rfl) (by kernel_rfl) (fun _ _ _ h => h) (Or.inl ⟨by rfl, (by intro w hSw; go_simp)⟩) (by assumption) ?_
  refine wpAnyH_take (i := 10) (oi := _) (v := .pointer (some ⟨o.b, 0, none⟩)) rfl (by kernel_rfl) (by kernel_rfl) (by kernel_rfl) (fun _ _ _ h => h) (Or.inl ⟨by rfl, (by intro w hSw; obtain ⟨hs0, hs1, hs2, hs3⟩ := hSw; go_simp)⟩) (by assumption) ?_
  go_simp
  refine wpAnyH_take (i := 11) (oi := _) (v := .pointer (some ⟨o.b, 2, none⟩)) rfl (by kernel_rfl) (by kernel_rfl) (by kernel_rfl) (fun _ _ _ h => h) (Or.inl ⟨by rfl, (by intro w hSw; obtain ⟨hs0, hs1, hs2, hs3⟩ := hSw; go_simp)⟩) (by assumption) ?_
  refine wpAnyH_take (i := 12) (oi := _) (v := .bool o.shut) rfl (by kernel_rfl) (by kernel_rfl) (by kernel_rfl) (fun _ _ _ h => h) (Or.inl ⟨by rfl, (by intro w hSw; obtain ⟨hs0, hs1, hs2, hs3⟩ := hSw; go_simp)⟩) (by assumption) ?_
  go_simp
  refine wpAnyH_ready (rs := [4]) (by kernel_rfl) (by simp) ?_
  refine AllReadyH.cons (o := _) rfl (fun K hK => ?_) AllReadyH.nil
  go_simp
  refine (unhide HCL _ (fun S => (Fr.refl S _).drew)).mono ?_
  rintro e1 w1 ⟨v1, rfl, g1, g2, g3⟩
  obtain ⟨va, vc, rfl, _⟩ := g1.shape
  have hzz : ((w.alloc (.cells #[.int .i64 0, .slice none 0 0, .slice none 0 0, .int .i64 0, .int .i64 0, .bool false] 51)).drew).heap.size = w.heap.size + 1 := by simp
  have b1 : Below (w.alloc (.cells #[.int .i64 0, .slice none 0 0, .slice none 0 0, .int .i64 0, .int .i64 0, .bool false] 51)).heap.size (w.alloc (.cells #[.int .i64 0, .slice none 0 0, .slice none 0 0, .int .i64 0, .int .i64 0, .bool false] 51)) w1 := ((Below.refl _ _).drew).trans g2
  have hl : o.b < (w.alloc (.cells #[.int .i64 0, .slice none 0 0, .slice none 0 0, .int .i64 0, .int .i64 0, .bool false] 51)).heap.size := by have := unhide hob; rw [unhide HZ]; omega
  have S1 : w1.cell? ⟨o.b, 0, none⟩ = some (.int .i64 o.m) ∧ w1.cell? ⟨o.b, 1, none⟩ = some (.slice ia o.its.length ic) ∧ w1.cell? ⟨o.b, 2, none⟩ = some (.bool o.shut) ∧ o.b < w1.heap.size := ⟨(b1.cell (p := ⟨o.b, 0, none⟩) hl).trans hS.1, (b1.cell (p := ⟨o.b, 1, none⟩) hl).trans hS.2.1, (b1.cell (p := ⟨o.b, 2, none⟩) hl).trans hS.2.2.1, Nat.lt_of_lt_of_le hl b1.size⟩
  have hO1 := (unhide HO).fr (Fr.of_below (S := fun _ => False) b1) (fun e => e)
  have hw1 : w.heap.size < w1.heap.size := hO1.lt
  have sf := hO1.2
  have s0 := hO1.1 0 (by omega)
  have s1 := hO1.1 1 (by omega)
  have s2 := hO1.1 2 (by omega)
  have s3 := hO1.1 3 (by omega)
  have s4 := hO1.1 4 (by omega)
  have s5 := hO1.1 5 (by omega)
  simp only [sixL, List.getElem_cons_zero, List.getElem_cons_succ] at s0 s1 s2 s3 s4 s5
  obtain ⟨hZ, fz⟩ := hO1.set (.int .i64 9) (.slice va o.its.length vc) (.slice none 0 0) (.int .i64 0) (.int .i64 o.m) (.bool o.shut)
  have hGw : Gw w o.its (.slice va o.its.length vc) (w1.setCells w.heap.size 0 (sixL (.int .i64 9) (.slice va o.its.length vc) (.slice none 0 0) (.int .i64 0) (.int .i64 o.m) (.bool o.shut))) := by
    refine ⟨g1.fr fz (fun k hk e => ?_), ((unhide HB).trans (b1.mono (by rw [unhide HZ]; omega))).trans (fz.below (by have := b1.size; rw [unhide HZ] at this; omega) (fun k hk e => by omega)), fun k hk => ?_⟩
    · have := g3 k hk; rw [hzz] at this; omega
    · have := g3 k hk; rw [hzz] at this; omega
  have hne : ¬ o.b = w.heap.size := by have := unhide hob; omega
  have S5 : (w1.setCells w.heap.size 0 (sixL (.int .i64 9) (.slice va o.its.length vc) (.slice none 0 0) (.int .i64 0) (.int .i64 o.m) (.bool o.shut))).cell? ⟨o.b, 0, none⟩ = some (.int .i64 o.m) ∧ (w1.setCells w.heap.size 0 (sixL (.int .i64 9) (.slice va o.its.length vc) (.slice none 0 0) (.int .i64 0) (.int .i64 o.m) (.bool o.shut))).cell? ⟨o.b, 1, none⟩ = some (.slice ia o.its.length ic) ∧ (w1.setCells w.heap.size 0 (sixL (.int .i64 9) (.slice va o.its.length vc) (.slice none 0 0) (.int .i64 0) (.int .i64 o.m) (.bool o.shut))).cell? ⟨o.b, 2, none⟩ = some (.bool o.shut) ∧ o.b < (w1.setCells w.heap.size 0 (sixL (.int .i64 9) (.slice va o.its.length vc) (.slice none 0 0) (.int .i64 0) (.int .i64 o.m) (.bool o.shut))).heap.size := ⟨(fz.cell (a := ⟨o.b, 0, none⟩) S1.2.2.2 hne).trans S1.1, (fz.cell (a := ⟨o.b, 1, none⟩) S1.2.2.2 hne).trans S1.2.1, (fz.cell (a := ⟨o.b, 2, none⟩) S1.2.2.2 hne).trans S1.2.2.1, Nat.lt_of_lt_of_le S1.2.2.2 fz.size⟩
  have HS1 := hide S1
  have HS5 := hide S5
  have HZF := hide (And.intro hZ hGw)
  clear g1 g2 g3 hO1 hZ hGw fz b1 hl S1 S5 hne
  go_simp
  refine hK.out _ _ (unhide HS1) (fun hHeld1 => ?_)
  clear hK K
  refine wpAnyH_take (i := 13) (oi := _) (v := .agg #[(.int .i64 9), (.slice va o.its.length vc), (.slice none 0 0), (.int .i64 0), (.int .i64 o.m), (.bool o.shut)]) rfl (by kernel_rfl) (by kernel_rfl) (by kernel_rfl) (fun _ _ _ h => h) (Or.inl ⟨by rfl, (by intro w hSw; go_simp)⟩) (by assumption) ?_
  go_simp
  refine wpAnyH_ready (rs := [14]) (by kernel_rfl) (by simp) ?_
  refine AllReadyH.cons (o := _) rfl (fun K hK => ?_) AllReadyH.nil
  go_simp
  refine hK.out _ _ (unhide HS5) (fun hHeld5 => ?_)
  clear hK K
  refine wpAnyH_done (by kernel_rfl) ?_ _
  clear hHeld hHeld1 hHeld5 hS s0 s1 s2 s3 s4 s5 sf hw1
  go_wp2_with fail
  show bodyPost Try.prog Try.f96 _ Exit.ret _ (w1.setCells w.heap.size 0 (sixL (.int .i64 9) (.slice va o.its.length vc) (.slice none 0 0) (.int .i64 0) (.int .i64 o.m) (.bool o.shut)))
  obtain ⟨hZ, hGw⟩ := unhide HZF
  clear HZF
  generalize w1.setCells w.heap.size 0 (sixL (.int .i64 9) (.slice va o.its.length vc) (.slice none 0 0) (.int .i64 0) (.int .i64 o.m) (.bool o.shut)) = W8 at *
  have z0 := hZ.1 0 (by omega)
  have z1 := hZ.1 1 (by omega)
  have z2 := hZ.1 2 (by omega)
  have z3 := hZ.1 3 (by omega)
  have z4 := hZ.1 4 (by omega)
  have z5 := hZ.1 5 (by omega)
  simp only [sixL, List.getElem_cons_zero, List.getElem_cons_succ] at z0 z1 z2 z3 z4 z5
  refine bodyPost_ret (v := .agg #[(.int .i64 9), (.slice va o.its.length vc), (.slice none 0 0), (.int .i64 0), (.int .i64 o.m), (.bool o.shut)]) (by simp [results, Try.results96, go_sem, z0, z1, z2, z3, z4, z5]) rfl ?_
  exact ⟨_, rfl, hGw⟩
end Go.Proofs.Ytfoanikkngmeiaa.hp
