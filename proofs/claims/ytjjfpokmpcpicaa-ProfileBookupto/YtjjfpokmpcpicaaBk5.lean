/-
  The places of a book, as it tells them.
-/
import Derived.Test.YtjjfpokmpcpicaaBk5a
import Derived.Test.YtjjfpokmpcpicaaBkP
import Derived.Maps.OwnSet
namespace Go.Proofs.Ytjjfpokmpcpicaa
open Go.RowKit Go.Maps
set_option linter.unusedVariables false
set_option linter.unusedSimpArgs false
theorem spAt_ok {f : List (List Sp)} (hF : f.length ≤ 5864062014634) (hN : ∀ l ∈ f, l.length ≤ 5864062014634) {s : Int × Int} (h : (spAt f s).isSome = true) : OkV s := by
  obtain ⟨x, hx⟩ := Option.isSome_iff_exists.1 h
  obtain ⟨i, j, l, rfl, h1, h2⟩ := spAt_some hx
  have := (List.getElem?_eq_some_iff.1 h1).1
  have := (List.getElem?_eq_some_iff.1 h2).1
  have := hN l (List.mem_of_getElem? h1)
  exact ⟨WalkArith.wf_i64 (by simp; omega), WalkArith.wf_i64 (by simp; omega)⟩
theorem le_sum : ∀ {l : List Nat} {x : Nat}, x ∈ l → x ≤ l.sum
  | y :: l, x, h => by
    rw [List.sum_cons]
    rcases List.mem_cons.1 h with rfl | h
    · omega
    · have := le_sum h; omega
/-- While the places are gathered. -/
structure PlI (w : World) (mb n : Nat) (D : DataW Unit) (g : Int × Int → Option (Nat × Sp)) (r : Nat) (left : Lit → Bool) (cnt : Nat) (l : List (Int × Int)) (v : Value) (wr : World) : Prop where
  rg : wr.ranges Try.prog 78 ptR mb r n D left cnt
  gx : Gx w 2 enI l v wr
  vr : ∀ b, v.ownBlock = some b → b ≠ r ∧ b ≠ mb
  rw : w.heap.size ≤ r
  nd : l.Nodup
  lf : ∀ s, OkV s → (left (kyV s) = true ↔ ((g s).isSome = true ∧ s ∉ l))
  ok : ∀ s ∈ l, OkV s ∧ (g s).isSome = true
  cn : l.length + cnt ≤ n
theorem Gx.grownR {w wr w' : World} {l : List (Int × Int)} {v : Value} {r : Nat} (h : Gx w 2 enI l v wr) (k : wr.grownBy w' (some r)) (hr : w.heap.size ≤ r) (hv : ∀ b, v.ownBlock = some b → b ≠ r) : Gx w 2 enI l v w' := by
  have f : Fr (fun b => b = r) wr w' := (Fr.refl _ wr).grown k (fun b e => .inr (by cases e; rfl))
  exact ⟨h.1.fr f (fun b hb e => hv b hb e), h.2.1.trans (f.below h.2.1.size (fun b hb e => by omega)), h.2.2⟩
theorem PlI.step {w : World} {mb n : Nat} {D : DataW Unit} {g : Int × Int → Option (Nat × Sp)} {r : Nat} {left : Lit → Bool} {cnt cnt' : Nat} {l : List (Int × Int)} {v v' : Value} {wr w' w'' : World} {x : Int × Int} {kl : Lit} {X Y : Obj} (h : PlI w mb n D g r left cnt l v wr)
    (hkey : keyOf Try.prog 78 (plV x) = some kl) (hlk : left kl = true) (hrg : w'.ranges Try.prog 78 ptR mb r n D (fun z => left z && !z.sameKey kl) cnt') (hlt : cnt' < cnt) (hgr : wr.grownBy w' (some r))
    (hr : Ro w'' 2 v' (l.length + 1) (flt enI l ++ enI x)) (hg : ((w'.alloc X).alloc Y).grownBy w'' v.ownBlock) (hat : v'.ownBlock = v.ownBlock ∨ v'.ownBlock = some ((w'.alloc X).alloc Y).heap.size) :
    PlI w mb n D g r (fun z => left z && !z.sameKey kl) cnt' (l ++ [x]) v' w'' := by
  obtain ⟨c, e, hc⟩ := kyV_inv hkey
  obtain rfl : x = c := by cases x; cases c; simp [plV] at e; simp [e]
  have ekl : kl = kyV x := by have := kyV_of hc; rw [hkey] at this; cases this; rfl
  subst ekl
  have hx := (h.lf x hc).1 hlk
  have g1 := h.gx.grownR hgr h.rw (fun b hb => (h.vr b hb).1)
  have g2 : Gx w 2 enI l v (w'.alloc X) := ⟨g1.1.fr (S := fun _ => False) ((Fr.refl _ w').alloc X) (fun _ _ e => e), g1.2.1.alloc g1.2.1.size _, g1.2.2⟩
  have hrl := hrg.lt
  have hml := hrg.owns.lt
  refine ⟨((hrg.alloc X).alloc Y).kept hg (fun e => (h.vr mb e.symm).2 rfl) (fun e => (h.vr r e.symm).1 rfl), g2.push hr rfl hg hat, fun b hb => ?_, h.rw, ?_, fun s hs => ?_, fun s hs => ?_, ?_⟩
  · rcases hat with q | q
    · exact h.vr b (by rw [← q]; exact hb)
    · rw [q] at hb
      cases hb
      simp only [World.size_alloc]
      omega
  · rw [List.nodup_append]
    refine ⟨h.nd, by simp, fun a ha b hb e9 => ?_⟩
    simp at hb
    subst hb
    subst e9
    exact hx.2 ha
  · rw [Bool.and_eq_true, h.lf s hs, Bool.not_eq_true']
    have e1 : (kyV s).sameKey (kyV x) = true ↔ s = x := (WideAt.sameKey_iff (kyV_key x)).trans ⟨fun e => kyV_inj hs hc e, fun e => by rw [e]⟩
    constructor
    · rintro ⟨⟨a1, a2⟩, a3⟩
      refine ⟨a1, fun hm => ?_⟩
      rcases List.mem_append.1 hm with hm | hm
      · exact a2 hm
      · rw [e1.2 (by simpa using hm)] at a3; cases a3
    · rintro ⟨a1, a2⟩
      refine ⟨⟨a1, fun hm => a2 (List.mem_append.2 (.inl hm))⟩, ?_⟩
      cases q : (kyV s).sameKey (kyV x) with
      | false => rfl
      | true => exact absurd (List.mem_append.2 (.inr (by simp [e1.1 q]))) a2
  · rcases List.mem_append.1 hs with hm | hm
    · exact h.ok s hm
    · simp at hm; subst hm; exact ⟨hc, hx.1⟩
  · have := h.cn; simp; omega
open Go.Shelf Go.Sort in
set_option maxRecDepth 100000 in
set_option maxHeartbeats 6400000 in
theorem places_any {Z : Nat → Prop} {w : World} {p : Nat} {f : List (List Sp)} (h : BkM Z w p f) (hF : f.length ≤ 5864062014634) (hN : (f.map List.length).sum ≤ 5864062014634) :
    Calls Try.prog 29 #[.pointer (some ⟨p, 0, none⟩)] w fun e w' => ∃ v', e = .returned v' ∧ Gx w 2 enI (plc (f.map List.length) 0) v' w' := by
  obtain ⟨mb, n, g, hg, hn, hc, hz⟩ := h
  obtain ⟨D, hD1, hD2, hD3⟩ := hg.map
  obtain ⟨bc, -, bl⟩ := blk_cells hg.book
  have b1 := bc 1
  have hlen := hD1.len Try.underlying57 3
  rw [hD2] at hlen
  rw [← hn] at hN
  have hmk : ∀ W : World, (Instr.makeSlice 86 (.int .i64 0) (.int .i64 (n : Int))).run Try.prog W = .ok (.slice (some ⟨W.heap.size, 0, none⟩) 0 n) (W.alloc (.cells (madeCells (Value.agg #[.int .i64 0, .int .i64 0]).cells (n * 2)) 78)) := fun W => by
    obtain ⟨i0, hi0, hz0, hz1, hz2⟩ := info_parts infP
    have := run_make (P := Try.prog) W 86 78 i0 _ Try.underlying86 hi0 hz0 .i64 .i64 0 (n : Int) (by omega) (by omega) (by rw [hz2]; omega) (by omega)
    rw [hz1] at this
    simpa using this
  have hmb := hD1.lt
  have HOWN : Hid (∀ O, (w.alloc O).ownsMap Try.prog 78 ptR mb n D) := fun O => hD1.alloc O
  have HPB : Hid (∀ O, (w.alloc O).cell? ⟨p, 1, none⟩ = some (.map (some mb)) ∧ p < (w.alloc O).heap.size) := fun O => ⟨by
    have := (blk_cells ((Below.heap_alloc w O p bl).trans hg.book)).1 1
    exact this, by rw [World.size_alloc]; omega⟩
  have HRO : Hid (∀ (m : Nat) W', W' = w.alloc (.cells (madeCells (Value.agg #[.int .i64 0, .int .i64 0]).cells (n * 2)) 78) → Gx w 2 enI [] (.slice (some ⟨w.heap.size, 0, none⟩) 0 n) W') := fun _ W' e => by
    subst e
    refine ⟨⟨by simp [flt], .inr ⟨_, 0, n, _, _, rfl, heap_alloc_new w _, by simp, by unfold maxLen; omega, ?_, fun j hj => by simp at hj⟩⟩, (Below.refl _ w).alloc (Nat.le_refl _) _, fun b e => by cases e; exact Nat.le_refl _⟩
    simp [madeCells]
  have HFIN : Hid (∀ l : List (Int × Int), l.Nodup → (∀ s ∈ l, OkV s ∧ (g s).isSome = true) → (∀ s, OkV s → (g s).isSome = true → s ∈ l) → ∀ s, s ∈ l ↔ s ∈ plc (f.map List.length) 0) := fun l h1 h2 h3 s => by
    have hgs : (g s).isSome = (spAt f s).isSome := by rw [← hc s]; cases g s <;> rfl
    rw [← spAt_plc]
    constructor
    · intro hs; rw [← hgs]; exact (h2 s hs).2
    · intro hs
      refine h3 s (spAt_ok hF (fun l hl => ?_) hs) (by rw [hgs]; exact hs)
      have : l.length ≤ (f.map List.length).sum := le_sum (List.mem_map.2 ⟨l, hl, rfl⟩)
      omega
  have HD3 := hide hD3
  have HBK : Hid (w.heap[mb]? = w.heap[mb]?) := rfl
  clear hD3 hg hz hc bc hn hF HBK
  have hpl := bl
  go_enter Try.func29, Try.ntmps29
  go_wp2_with (first | (at_range; refine wpList_range_own _ rfl _ _ rfl 78 64 lawV Try.underlying57 ptR mb n D rfl (unhide HOWN _) ?_))
  intro w1 r1 r2 r3
  have HPL : Hid (PlI w mb n D g (w.heap.size + 1) (has D) n [] (.slice (some ⟨w.heap.size, 0, none⟩) 0 n) w1) := by
    have q1 := unhide HRO 0 _ rfl
    have q2 : Below (w.alloc (.cells (madeCells (Value.agg #[.int .i64 0, .int .i64 0]).cells (n * 2)) 78)).heap.size (w.alloc (.cells (madeCells (Value.agg #[.int .i64 0, .int .i64 0]).cells (n * 2)) 78)) w1 := ⟨r2.os, r2.tape, r2.output, r2.size, fun k hk => r2.block k hk (by simp)⟩
    (try rw [hD2] at r1)
    refine ⟨r1, Gx.mk1 q1 q2, fun b e => by have e2 : w.heap.size = b := by { simpa [Value.ownBlock] using e }; omega, by omega, List.nodup_nil, fun s hs => ?_, fun s hs => by simp at hs, by simp⟩
    rw [(unhide HD3 s hs).1]
    simp
  obtain ⟨r, hr⟩ : ∃ r, Hid (w.heap.size + 1 = r) := ⟨_, hide rfl⟩
  rw [unhide hr] at HPL
  rw [unhide hr]
  clear HRO r1 r2 r3 HD3 hlen hmk b1 bl hpl HPB HOWN hmb hD2
  go_wp2_with fail
  go_loopg [3] n (fun gg t3 wr => ∃ (l : List (Int × Int)) (v : Value) (left : Lit → Bool), t3 = v ∧ Hid (PlI w mb n D g r left gg l v wr))
  case atStart => exact ⟨[], _, _, rfl, HPL⟩
  case round =>
    clear HPL hD1
    obtain ⟨l, v, left, hv, hP⟩ := hrel
    have hv2 := hv.symm
    subst hv2
    clear hv
    go_wp2_with (at_next; refine wpList_next_ranges wr rfl _ rfl 78 lawV ptR plV ptV (fun key kl h => let ⟨c, e, _⟩ := kyV_inv h; ⟨c, e⟩) (fun v y h => let ⟨o, e, _⟩ := ptR_inv h; ⟨o, e⟩) mb r n D left gk rfl (unhide hP).rg ?_ ?_)
    · intro hc0 hlf
      have HLN : Hid (l.length ≤ 5864062014634) := by have := (unhide hP).cn; unfold Hid; omega
      have HMS : Hid (l.mergeSort (fun x y => !(ltOf cfP y x)) = plc (f.map List.length) 0) := plc_uniq (unhide hP).nd (unhide HFIN l (unhide hP).nd (unhide hP).ok (fun s hs hgs => Classical.byContradiction fun hns => by
        have := ((unhide hP).lf s hs).2 ⟨hgs, hns⟩
        rw [hlf] at this
        cases this)) _ leP_iff
      have HBW := hide (unhide hP).gx.2.1
      have HOB := hide (unhide hP).gx.2.2
      by_cases h0 : 0 < l.length
      · have HRo := hide (unhide hP).gx.1
        obtain ⟨blk, off, cap, ev, hc1, hc2, hc3, hc4⟩ := (unhide hP).gx.1.full h0
        subst ev
        have hblk : w.heap.size ≤ blk := (unhide hP).gx.2.2 blk rfl
        have HSF := hide (sortPl_total enI zI (fun x v hv => by simp [enI] at hv; rcases hv with rfl | rfl <;> rfl) cfP swoP 46 #[] blk off cap l.toArray wr (enters_of Try.func46 (by kernel_rfl) rfl) (fun m os dk hdk x y => (plC_any _ x y).mono fun e w' ⟨h1, h2, h3⟩ => ⟨h1, grow_of h2 h3⟩) (Ro.holdsP (unhide HRo) h0) hc3 (by have := unhide HLN; simp; omega) totP)
        have hsz : l.toArray.size = l.length := by simp
        rw [hsz] at HSF
        obtain ⟨M, hM⟩ : ∃ M, Hid (l.length = M) := ⟨_, hide rfl⟩
        have HSL : Hid ((plc (f.map List.length) 0).length = l.length) := by unfold Hid; rw [← unhide HMS, List.length_mergeSort]
        rw [unhide hM] at HSF ⊢
        clear hc4 hP hlf
        go_wp2_with fail
        refine (unhide HSF).mono ?_
        rintro e w2 ⟨rfl, nn, os, e1⟩
        have HF : Hid (Gx w 2 enI (plc (f.map List.length) 0) (.slice (some ⟨blk, off, none⟩) M cap) w2) := by
          have e2 : w2 = sortWorldK enI 2 wr blk off nn (plc (f.map List.length) 0).toArray os := by rw [← unhide HMS]; exact e1
          have q1 := sortedP_ro (unhide HRo) (unhide HSL) h0 nn os
          have q2 := sortK_fr wr blk off nn (plc (f.map List.length) 0).toArray os
          rw [← e2] at q1 q2
          refine ⟨by rw [unhide HSL, ← unhide hM]; exact q1, (unhide HBW).trans (q2.below (unhide HBW).size (fun k hk e => by omega)), fun k hk => by cases hk; exact hblk⟩
        clear e1 HSF HRo
        go_wp2_with fail
        go_ret
        exact ⟨_, rfl, unhide HF⟩
      · have hl0 : l = [] := List.eq_nil_of_length_eq_zero (by omega)
        obtain ⟨va, vc, ev, _, _⟩ := (unhide hP).gx.1.shape
        rw [hl0] at ev
        simp only [List.length_nil] at ev
        subst ev
        have HF : Hid (Gx w 2 enI (plc (f.map List.length) 0) (.slice va 0 vc) wr) := by
          have q : plc (f.map List.length) 0 = [] := by rw [← unhide HMS, hl0]; simp
          rw [q]
          have q2 := (unhide hP).gx
          rw [hl0] at q2
          exact q2
        have HSF := hide (sortPl_none va vc (.func (.func 46) #[] #[]) wr)
        clear hP hlf HMS
        go_wp2_with fail
        refine (unhide HSF).mono ?_
        rintro e w2 ⟨rfl, e1⟩
        have e2 := e1.symm
        subst e2
        go_wp2_with fail
        go_ret
        exact ⟨_, rfl, unhide HF⟩
    · intro x1 x2 c kl y1 y2 w' cnt' hkey hlk hvv hat hrg hlt hgr hsz hen
      obtain ⟨x, hx⟩ : ∃ x : Int × Int, x = (x1, x2) := ⟨_, rfl⟩
      obtain rfl : x1 = x.1 := by rw [hx]
      obtain rfl : x2 = x.2 := by rw [hx]
      clear hx
      have HST := hide (fun v' w'' X Y hr hg hat => PlI.step (v' := v') (w'' := w'') (X := X) (Y := Y) (unhide hP) hkey hlk hrg hlt hgr hr hg hat)
      have HRo : Hid (∀ X Y, Ro ((w'.alloc X).alloc Y) 2 v l.length (flt enI l)) := fun X Y => ((unhide hP).gx.grownR hgr (unhide hP).rw (fun b hb => ((unhide hP).vr b hb).1)).1.fr (S := fun _ => False) (((Fr.refl _ w').alloc X).alloc Y) (fun _ _ e => e)
      have HLB : Hid (l.length ≤ 5864062014700) := by have := (unhide hP).cn; unfold Hid; omega
      have HNC : Hid (∀ X, ∀ (j : Nat) (u : Value), (enI x)[j]? = some u → ((w'.alloc X).alloc (.cells #[.int .i64 x.1, .int .i64 x.2] 78)).cell? ((⟨w'.heap.size + 1, 0, none⟩ : Addr).add j) = some u) := fun X j u hu => by
        have := new_cells (w'.alloc X) #[.int .i64 x.1, .int .i64 x.2] 78 j u hu
        simpa only [World.size_alloc] using this
      have HLT := hide hlt
      obtain ⟨pc, hpc⟩ : ∃ pc, Hid (ptV c = pc) := ⟨_, hide rfl⟩
      unfold plV at hen ⊢
      rw [unhide hpc] at hen ⊢
      clear hP hkey hlk hvv hat hrg hlt hgr hsz
      go_wp2_with (first | (at_builtin; refine appP rfl _ _ rfl _ l rfl (unhide HRo _ _) ⟨w'.heap.size + 1, 0, none⟩ 1 x rfl (unhide HNC _) (unhide HLB) ?_))
      intro v' w'' hr hg hat
      have HP2 := hide (unhide HST v' w'' _ _ hr hg (by simpa using hat))
      clear hr hg hat HST HRo HLB hen
      go_wp2_with fail
      go_roundg cnt'
      case measure => exact unhide HLT
      case rel => exact ⟨l ++ [x], v', _, rfl, HP2⟩
end Go.Proofs.Ytjjfpokmpcpicaa
