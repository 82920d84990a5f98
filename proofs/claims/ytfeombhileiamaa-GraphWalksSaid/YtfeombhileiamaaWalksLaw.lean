/-
  GraphWalks.
-/
import Derived.Test.YtfeombhileiamaaAll
import Derived.Test.YtfeombhileiamaaRng3
import Derived.Test.YtfeombhileiamaaRound
import Derived.Sort.QuietIn
import Derived.Laws.EntriesVeiled
namespace Go.Proofs.Ytfeombhileiamaa
open Go.RowKit Go.Shelf
set_option linter.unusedVariables false
set_option linter.unusedSimpArgs false
attribute [local go_sem] Oper.semAt_some

def onN (R : Act → World → Prop) : Exit → Act → World → Prop
  | .normal, a, w => R a w
  | _, _, _ => False
theorem wpIn_cut {F : Fence} {n : Nat} {P : Program} {c : Code} {Q : Exit → Act → World → Prop} {a : Act} {w : World} {A : Act} {R : World → Prop} (h : c.wpIn F n P (onN (fun a' w' => a' = A ∧ R w')) a w) (hq : ∀ w', R w' → Q .normal A w') : c.wpIn F n P Q a w :=
  wpIn_mono h (fun e a' w' k => by
    cases e with
    | normal => obtain ⟨rfl, r⟩ := k; exact hq w' r
    | _ => exact k.elim)
theorem wpIn_cutB {F : Fence} {n : Nat} {P : Program} {c : Code} {Q : Exit → Act → World → Prop} {a : Act} {w : World} {A : Act} {R : World → Prop} {i : Nat} (h : c.wpIn F n P (fun e a' w' => (e = .normal ∨ e = .exit i) ∧ a' = A ∧ R w') a w) (hq : ∀ w', R w' → Q .normal A w') : c.wpIn F n P (Exit.inBlock i Q) a w :=
  wpIn_mono h (fun e a' w' k => by
    obtain ⟨rfl | rfl, rfl, r⟩ := k
    · exact hq w' r
    · simp only [Exit.inBlock, if_true]; exact hq w' r)
theorem pck_bounds (k : Int) (m : Nat) : 0 ≤ pck k ((m : Int) + 1) ∧ pck k ((m : Int) + 1) ≤ (m : Int) := by
  have hlo : -((m : Int) + 1) < k.tmod ((m : Int) + 1) := Int.lt_tmod_of_pos k (by omega)
  have hhi : k.tmod ((m : Int) + 1) < (m : Int) + 1 := Int.tmod_lt_of_pos k (by omega)
  unfold pck
  split <;> omega
/-- A row of one's own is written over in one place. -/
theorem Ro.put1 {w : World} {n : Nat} {xs : List Value} {g off cap : Nat} (h : Ro w 1 (.slice (some ⟨g, off, none⟩) n cap) n xs) {i : Nat} (hi : i < n) (u : Value) : ∃ ys, Ro (w.setCell ⟨g, off + i, none⟩ u) 1 (.slice (some ⟨g, off, none⟩) n cap) n ys := by
  have hl := h.1
  obtain ⟨_, _, e, hc, _⟩ := h.shape
  cases e
  refine ⟨xs.set i u, (h.sets (v := .slice (some ⟨g, off, none⟩) n cap) rfl (o := off + i) (m := n) (vs := [u]) (ys := xs.set i u) (by omega) (by simp; omega) hc (by simpa using hl) (fun j hj => ?_) (fun j hj q => by omega)).1⟩
  by_cases q : j = i
  · subst q
    rw [if_pos (by simp), List.getElem?_set_self (by omega)]
    simp
  · rw [if_neg (by simp; omega), List.getElem?_set_ne (by omega)]
theorem BL.grown {X Y : World} {B E : Nat} {lv : Value} {l : List Int} {o : Obj} (h : BL X B E lv l) (hg : (X.alloc o).grownBy Y lv.ownBlock) : Fr (fun k => E ≤ k) X Y := ((Fr.refl _ X).alloc o).grown hg (fun k e => .inr (h.own k e))
/-- The first of a list. -/
theorem slice_head {W : World} (wa : Option Addr) (M wc P : Nat) (h1 : P ≤ M) (h2 : P ≤ wc) (h0 : wa = none → M = 0 ∧ wc = 0) : (Instr.sliceAt 22 (.slice wa M wc) none (some (.int .i64 (P : Int))) none).run Try.prog W = .ok (.slice wa P wc) W := by
  cases wa with
  | none =>
    obtain ⟨rfl, rfl⟩ := h0 rfl
    obtain rfl : P = 0 := by omega
    kernel_rfl
  | some a =>
    have i1 : (P : Int) ≤ (wc : Int) := by omega
    go_simp
/-- What lies fixed from the walks on. -/
structure FX (w9 : World) (S Bw Bk Bd : Nat) (stop : Int) (wa : Option Addr) (wc : Nat) (lv : Value) (ds : List Int) : Prop where
  hs : S + 2 < w9.heap.size
  hw : Bw < w9.heap.size
  hk : Bk < w9.heap.size
  hd : Bd < w9.heap.size
  st : w9.cell? ⟨S + 1, 0, none⟩ = some (.int .i64 stop)
  res : Bx w9 (S + 2) (.bool false)
  want : w9.cell? ⟨Bw, 0, none⟩ = some (.slice wa ds.length wc)
  row : Rn w9 (.slice wa ds.length wc) ds
  walk : w9.cell? ⟨Bk, 0, none⟩ = some (.func (.func 17) #[] #[.pointer (some ⟨Bd, 0, none⟩)])
  dl : w9.cell? ⟨Bd, 0, none⟩ = some lv
  dr : Rn w9 lv ds
theorem FX.keep {w9 X : World} {S Bw Bk Bd : Nat} {stop : Int} {wa : Option Addr} {wc : Nat} {lv : Value} {ds : List Int} (h : FX w9 S Bw Bk Bd stop wa wc lv ds) (f : Below w9.heap.size w9 X) : FX X S Bw Bk Bd stop wa wc lv ds :=
  ⟨Nat.lt_of_lt_of_le h.hs f.size, Nat.lt_of_lt_of_le h.hw f.size, Nat.lt_of_lt_of_le h.hk f.size, Nat.lt_of_lt_of_le h.hd f.size,
   (f.cell (p := ⟨S + 1, 0, none⟩) (by have := h.hs; show S + 1 < _; omega)).trans h.st, h.res.keep (Fr.of_below (S := fun _ => False) f) (fun e => e), (f.cell (p := ⟨Bw, 0, none⟩) h.hw).trans h.want, h.row.below f (Nat.le_refl _), (f.cell (p := ⟨Bk, 0, none⟩) h.hk).trans h.walk, (f.cell (p := ⟨Bd, 0, none⟩) h.hd).trans h.dl, h.dr.below f (Nat.le_refl _)⟩

set_option maxRecDepth 100000 in
set_option maxHeartbeats 6400000 in
theorem walksLaw {w : World} {gv : Value} {st up : List Int} (b stop : Int) (h : GV w gv st up) (hN : up.length ≤ 17592186043904) :
    Calls Try.prog 4 #[gv, .int .i64 b, .int .i64 stop] w fun e w' => e = .returned (.bool true) ∧ Below w.heap.size w w' := by
  obtain ⟨n, hn⟩ : ∃ n : Nat, 12 ≤ n := ⟨12, Nat.le_refl _⟩
  refine (callsIn_wide (n := n)).1 ?_
  have HV := hide h
  obtain ⟨a0, c0, a1, n1, c1, a2, n2, c2, a3, c3, a4, n4, c4, rfl, hst, hup⟩ := h
  have HST := hide hst
  have HUP := hide hup
  have HDL := hide (dms_length up b)
  have HN := hide hN
  have HRD := hide (fun (W : World) (hW : Below w.heap.size w W) => rdoms_any b ((unhide HV).below hW (Nat.le_refl _)) (unhide HN))
  obtain ⟨R, hR⟩ : ∃ R, Hid (dms up b = R) := ⟨_, rfl⟩
  obtain ⟨L, hL⟩ : ∃ L, Hid (up.length = L) := ⟨_, rfl⟩
  obtain ⟨U, hU⟩ : ∃ U, Hid (st.length = U) := ⟨_, rfl⟩
  rw [unhide hR] at HDL HRD
  rw [unhide hL] at hN HDL HUP
  rw [unhide hU] at HST
  rw [unhide hL, unhide hU] at HV HRD ⊢
  clear hst hup
  refine callsIn_of_wp_marks Try.func4 rfl trivial ?_ rfl
  simp only [Try.ntmps4, List.size_toArray, List.length_cons, List.length_nil, Nat.reduceAdd, Nat.reduceSub, Array.replicate_succ, Array.replicate_zero, List.push_toArray, List.append_toArray, List.nil_append, List.cons_append]
  gi_wp2_with fail
  obtain ⟨w1, ew1⟩ : ∃ w1, w1 = ((w.alloc (.cells #[.slice a0 U c0, .slice a1 n1 c1, .slice a2 n2 c2, .slice a3 L c3, .slice a4 n4 c4] 25)).alloc (.cells #[.int .i64 stop] 3)).alloc (.cells #[.bool false] 4) := ⟨_, rfl⟩
  rw [← ew1]
  have hs1 : w1.heap.size = w.heap.size + 3 := by rw [ew1]; simp
  have hB1 : Below w.heap.size w w1 := by rw [ew1]; exact (((Below.refl _ _).alloc (Nat.le_refl _) _).alloc (by simp) _).alloc (by simp; omega) _
  have hg1 : Below (w.heap.size + 1) (w.alloc (.cells #[.slice a0 U c0, .slice a1 n1 c1, .slice a2 n2 c2, .slice a3 L c3, .slice a4 n4 c4] 25)) w1 := by rw [ew1]; exact ((Below.refl _ _).alloc (by simp) _).alloc (by simp) _
  have hbs : Bx w1 (w.heap.size + 1) (.int .i64 stop) := by rw [ew1]; exact (Bx.new' _ _ _ (by simp)).alloc _
  have hbr : Bx w1 (w.heap.size + 2) (.bool false) := by rw [ew1]; exact Bx.new' _ _ _ (by simp)
  have HB1 := hide hB1
  have HG1 := hide hg1
  have HBS := hide hbs
  have HBR := hide hbr
  have HS1 := hide hs1
  clear ew1 hB1 hg1 hbs hbr hs1
  refine ⟨trivial, (fun q => by cases q), (callsIn_wide.2 (unhide HRD w1 (unhide HB1))).mono ?_⟩
  rintro e w2 ⟨vw, rfl, hg2⟩
  obtain ⟨wa, wc, evw, _, _⟩ := hg2.1.shape
  subst evw
  have HW2 := hide hg2.1
  have HB2 : Hid (Below w1.heap.size w1 w2) := hg2.2.1
  have hown2 := hide hg2.2.2
  obtain ⟨M, hM⟩ : ∃ M, Hid (R.length = M) := ⟨_, rfl⟩
  have HWN : Hid (wa = none → M = 0 ∧ wc = 0) := fun e => by
    rw [← unhide hM]
    rcases hg2.1.2 with ⟨e2, h0⟩ | ⟨_, _, _, _, _, e2, _⟩
    · injection e2 with _ _ q2; exact ⟨h0, q2⟩
    · rw [e] at e2; cases e2
  have hg12 := (unhide HG1).trans ((unhide HB2).mono (by have := unhide HS1; omega))
  obtain ⟨p0, p1, p2, p3, p4, pB, plt⟩ := box5 hg12
  have HG12 := hide hg12
  have HPB := hide pB
  rw [unhide hM]
  rw [unhide hM] at HW2 hown2 HDL
  clear hg2 hg12 pB HRD
  gi_wp2_with fail
  clear p0 p1 p2 p3 p4
  obtain ⟨w4, ew4⟩ : ∃ w4, w4 = (w2.alloc (.cells #[.slice wa M wc] 22)).alloc (.cells #[.slice a0 U c0, .slice a1 n1 c1, .slice a2 n2 c2, .slice a3 L c3, .slice a4 n4 c4] 25) := ⟨_, rfl⟩
  rw [← ew4]
  have hs4 : w4.heap.size = w2.heap.size + 2 := by rw [ew4]; simp
  have hB4 : Below w2.heap.size w2 w4 := by rw [ew4]; exact ((Below.refl _ _).alloc (Nat.le_refl _) _).alloc (by simp) _
  have hbw4 : Bx w4 w2.heap.size (.slice wa M wc) := by rw [ew4]; exact (Bx.new' _ _ _ rfl).alloc _
  have hh4 := box5 (w := w2.alloc (.cells #[.slice wa M wc] 22)) (wr := w4) (e := 25) (u0 := .slice a0 U c0) (u1 := .slice a1 n1 c1) (u2 := .slice a2 n2 c2) (u3 := .slice a3 L c3) (u4 := .slice a4 n4 c4) (by rw [ew4]; exact Below.refl _ _)
  rw [World.size_alloc] at hh4
  have hf4 : ∀ j, w4.frozen? ⟨w2.heap.size + 1, j, none⟩ = false := fun j => by
    have hg := heap_alloc_new (w2.alloc (.cells #[.slice wa M wc] 22)) (.cells #[.slice a0 U c0, .slice a1 n1 c1, .slice a2 n2 c2, .slice a3 L c3, .slice a4 n4 c4] 25)
    rw [World.size_alloc] at hg
    rw [ew4]; simp only [World.frozen?, hg]; simp
  have hwB4 : Below w.heap.size w w4 := (unhide HPB).trans (hB4.mono (by omega))
  have HS4 := hide hs4
  have HB4 := hide hB4
  have HBW4 := hide hbw4
  have HH4 := hide hh4
  have HF4 := hide hf4
  have HWB4 := hide hwB4
  clear ew4 hs4 hB4 hbw4 hh4 hf4 hwB4
  refine ⟨trivial, (fun q => by cases q), (callsIn_wide.2 (copyN_any ((unhide HUP).below (unhide HWB4) (Nat.le_refl _)) (unhide HN))).mono ?_⟩
  rintro e w5 ⟨vc, rfl, hg5⟩
  have HC5 := hide hg5.1
  have HB5 : Hid (Below w4.heap.size w4 w5) := hg5.2.1
  have hown5 := hide hg5.2.2
  obtain ⟨ca, cc, evc, hcl, hcm⟩ := hg5.1.shape
  subst evc
  rw [unhide hL] at HC5 hown5 hcl ⊢
  have hh5 := fun j => (unhide HB5).cell (p := ⟨w2.heap.size + 1, j, none⟩) (by have := unhide HS4; show w2.heap.size + 1 < w4.heap.size; omega)
  have q0 := (hh5 0).trans (unhide HH4).1
  have q1 := (hh5 1).trans (unhide HH4).2.1
  have q2 := (hh5 2).trans (unhide HH4).2.2.1
  have q3 := (hh5 3).trans (unhide HH4).2.2.2.1
  have q4 := (hh5 4).trans (unhide HH4).2.2.2.2.1
  have f3 : w5.frozen? ⟨w2.heap.size + 1, 3, none⟩ = false := ((unhide HB5).frozen (p := ⟨w2.heap.size + 1, 3, none⟩) (by have := unhide HS4; show w2.heap.size + 1 < w4.heap.size; omega)).trans (unhide HF4 3)
  have hlt5 : w2.heap.size + 1 < w5.heap.size := World.block_lt_of_cell? _ _ q0
  clear hg5 hh5
  gi_wp2_with fail
  obtain ⟨w6, ew6⟩ : ∃ w6, w6 = w5.setCell ⟨w2.heap.size + 1, 3, none⟩ (.slice ca L cc) := ⟨_, rfl⟩
  rw [← ew6]
  have fr6 : Fr (fun x => x = w2.heap.size + 1) w5 w6 := by rw [ew6]; exact (Fr.refl (fun x => x = w2.heap.size + 1) w5).setCell ⟨w2.heap.size + 1, 3, none⟩ (.inr rfl) _
  have hs6 : w6.heap.size = w5.heap.size := by rw [ew6]; simp [World.setCell]
  have hc63 : w6.cell? ⟨w2.heap.size + 1, 3, none⟩ = some (.slice ca L cc) := by rw [ew6]; exact World.cell?_setCell_same' _ _ _ (by rw [q3]; rfl)
  have hw24 : w4.heap.size ≤ w2.heap.size + 2 := by have := unhide HS4; omega
  have hw24' : w2.heap.size + 2 ≤ w4.heap.size := by have := unhide HS4; omega
  have h12 : w.heap.size + 3 ≤ w2.heap.size := by have := unhide HS1; have := (unhide HB2).size; omega
  have hc6 : Ro w6 1 (.slice ca L cc) L (flt enN up) := by
    have := (unhide HC5).fr fr6 (fun k hk e => by have := unhide hown5 k hk; omega)
    exact this
  have hwB6 : Below w.heap.size w w6 := ((unhide HWB4).trans ((unhide HB5).mono (by omega))).trans (fr6.below (by have := (unhide HB5).size; omega) (fun k hk e => by omega))
  have hgv6 : GV w6 (.agg #[.slice a0 U c0, .slice a1 n1 c1, .slice a2 n2 c2, .slice ca L cc, .slice a4 n4 c4]) st up := by
    refine ⟨a0, c0, a1, n1, c1, a2, n2, c2, ca, cc, a4, n4, c4, by rw [unhide hL, unhide hU], ?_, ?_⟩
    · rw [unhide hU]; exact (unhide HST).below hwB6 (Nat.le_refl _)
    · rw [unhide hL]; exact Rn.of_ro (by rw [unhide hL]; exact hc6)
  have HDO := hide (doms_any b hgv6 (unhide HN))
  have FR6 := hide fr6
  have HS6 := hide hs6
  have HC63 := hide hc63
  have HC6 := hide hc6
  have HWB6 := hide hwB6
  rw [unhide hR] at HDO
  clear ew6 fr6 hs6 hc63 hc6 hwB6 hgv6 q0 q1 q2 q3 q4 f3
  refine ⟨trivial, (fun q => by cases q), (callsIn_wide.2 (unhide HDO)).mono ?_⟩
  rintro e w7 ⟨rfl, hb7, lv, hlv⟩
  have HB7 := hide hb7
  have HLV := hide hlv
  have hnf := fn_not_nil (w6.heap.size + 1)
  clear hb7 hlv HDO
  gi_wp2_with fail
  clear hnf
  obtain ⟨w8, ew8⟩ : ∃ w8, w8 = w7.alloc (.cells #[.func (.func 17) #[] #[.pointer (some ⟨w6.heap.size + 1, 0, none⟩)]] 34) := ⟨_, rfl⟩
  rw [← ew8]
  have hB8 : Below w7.heap.size w7 w8 := by rw [ew8]; exact (Below.refl _ _).alloc (Nat.le_refl _) _
  have hbk : Bx w8 w7.heap.size (.func (.func 17) #[] #[.pointer (some ⟨w6.heap.size + 1, 0, none⟩)]) := by rw [ew8]; exact Bx.new' _ _ _ rfl
  have hB68 : Below w6.heap.size w6 w8 := (unhide HB7).trans (hB8.mono (unhide HB7).size)
  have hs5 := (unhide HB5).size
  have hs6 : w6.heap.size ≤ w5.heap.size := by have := unhide HS6; omega
  have hs6' : w5.heap.size ≤ w6.heap.size := by have := unhide HS6; omega
  have h68 := hB68.size
  have hh8 : w8.cell? ⟨w2.heap.size + 1, 3, none⟩ = some (.slice ca L cc) := (hB68.cell (p := ⟨w2.heap.size + 1, 3, none⟩) (by show w2.heap.size + 1 < w6.heap.size; omega)).trans (unhide HC63)
  have hc8 := (unhide HC6).keep (fun g hg => hB68.block g ((unhide HC6).lt g hg))
  have HB68 := hide hB68
  have HBK := hide hbk
  have HH8 := hide hh8
  have HC8 := hide hc8
  have HB8 := hide hB8
  have hlvlt := (unhide HLV).bx.lt
  have h78 := hB8.size
  have HOW : Hid (∀ k, (Value.slice ca L cc).ownBlock = some k → w4.heap.size ≤ k ∧ k < w6.heap.size) := fun k hk => ⟨unhide hown5 k hk, (unhide HC6).lt k hk⟩
  have hfx : FX w8 w.heap.size w2.heap.size w7.heap.size (w6.heap.size + 1) stop wa wc lv R := by
    have d8 := (unhide HLV).bx.keep (Fr.of_below (S := fun _ => False) hB8) (fun e => e)
    have w58 : Fr (fun x => x = w2.heap.size + 1) w5 w8 := (unhide FR6).trans (Fr.of_below hB68)
    have w48 : Fr (fun x => x = w2.heap.size + 1) w4 w8 := (Fr.of_below (unhide HB5)).trans w58
    have bs4 : Bx w4 (w.heap.size + 1) (.int .i64 stop) := ((unhide HBS).keep (Fr.of_below (S := fun _ => False) (unhide HB2)) (fun e => e)).keep (Fr.of_below (S := fun _ => False) (unhide HB4)) (fun e => e)
    have br4 : Bx w4 (w.heap.size + 2) (.bool false) := ((unhide HBR).keep (Fr.of_below (S := fun _ => False) (unhide HB2)) (fun e => e)).keep (Fr.of_below (S := fun _ => False) (unhide HB4)) (fun e => e)
    have rw4 : Ro w4 1 (.slice wa M wc) M (flt enN R) := (unhide HW2).keep (fun g hg => (unhide HB4).block g ((unhide HW2).lt g hg))
    have rw8 : Ro w8 1 (.slice wa M wc) M (flt enN R) := rw4.fr w48 (fun k hk e => by have := (unhide HW2).lt k hk; omega)
    refine ⟨by omega, by omega, by have := hbk.lt; omega, by omega, (bs4.keep w48 (by omega)).1, br4.keep w48 (by omega), ?_, ?_, hbk.1, d8.1, ?_⟩
    · rw [unhide hM]; exact ((unhide HBW4).keep w48 (by omega)).1
    · rw [unhide hM]; exact Rn.of_ro (by rw [unhide hM]; exact rw8)
    · exact Rn.of_ro ((unhide HLV).ro.keep (fun g hg => hB8.block g ((unhide HLV).ro.lt g hg)))
  have HFX8 := hide hfx
  have HLV8 : Hid (∀ k, lv.ownBlock = some k → w6.heap.size ≤ k) := fun k hk => by have := (unhide HLV).own k hk; omega
  have HVW : Hid (∀ k, (Value.slice wa M wc).ownBlock = some k → k < w2.heap.size) := fun k hk => (unhide HW2).lt k hk
  have HWB8 : Hid (Below w.heap.size w w8) := (unhide HWB6).trans (hB68.mono (by omega))
  unfold maxLen at hcm
  clear hfx hB68 hbk hh8 hc8 hB8 ew8
  gi_loopw [10] (fun t10 wr => ∃ (i : Nat) (ys : List Value), Hid (i ≤ L) ∧ t10 = .int .i64 i ∧ Hid (Fr (fun x => (Value.slice ca L cc).ownBlock = some x) w8 wr) ∧ Hid (Ro wr 1 (.slice ca L cc) L ys)) (fun i _ => L - (intOf i).toNat)
  case atStart => exact ⟨0, _, Nat.zero_le _, rfl, Fr.refl _ _, unhide HC8⟩
  case round =>
    obtain ⟨i, ys, hi, rfl, HFR, HRO⟩ := hrel
    have kh : wr.cell? ⟨w2.heap.size + 1, 3, none⟩ = some (.slice ca L cc) := ((unhide HFR).cell (a := ⟨w2.heap.size + 1, 3, none⟩) (by show w2.heap.size + 1 < w8.heap.size; omega) (fun e => by have := unhide HOW (w2.heap.size + 1) e; omega)).trans (unhide HH8)
    have khl : w2.heap.size + 1 < wr.heap.size := World.block_lt_of_cell? _ _ kh
    have i0 : (0 : Int) ≤ (i : Int) := by omega
    by_cases hlt : i < L
    · have i1 : (i : Int) < (L : Int) := by omega
      obtain ⟨g, off, cap, e, _, _, hgl, hcell⟩ := (unhide HRO).full (by omega)
      cases e
      have kc := hcell i (by omega)
      obtain ⟨u0, hu0⟩ : ∃ u0, ys[i]? = some u0 := ⟨_, List.getElem?_eq_getElem (by have := (unhide HRO).1; omega)⟩
      rw [hu0] at kc
      have kf : wr.frozen? ⟨g, off + i, none⟩ = false := (unhide HRO).free rfl _
      have hwr : IntKind.i64.wrap ((i : Int) - 1) = (i : Int) - 1 := by go_arith
      clear hcell hu0
      gi_wp2_with fail
      go_roundw
      case rel =>
        obtain ⟨ys', hy⟩ := (unhide HRO).put1 hlt (.int .i64 ((i : Int) - 1))
        exact ⟨i + 1, ys', hlt, by go_num, (unhide HFR).setCell ⟨g, off + i, none⟩ (.inr rfl) _, hy⟩
      case measure => simp [intOf]; omega
    · have i1 : ¬ (i : Int) < (L : Int) := by omega
      have FX9 : Hid (FX wr w.heap.size w2.heap.size w7.heap.size (w6.heap.size + 1) stop wa wc lv R) := by
        have f := unhide HFR
        have x := unhide HFX8
        have hz := f.size
        refine ⟨by omega, by omega, by have := x.hk; omega, by omega, (f.cell (a := ⟨w.heap.size + 1, 0, none⟩) (by show w.heap.size + 1 < _; omega) (fun e => by have := unhide HOW (w.heap.size + 1) e; omega)).trans x.st, x.res.keep f (fun e => by have := unhide HOW _ e; omega), (f.cell (a := ⟨w2.heap.size, 0, none⟩) x.hw (fun e => by have := unhide HOW w2.heap.size e; omega)).trans x.want, ?_, (f.cell (a := ⟨w7.heap.size, 0, none⟩) x.hk (fun e => by have := unhide HOW w7.heap.size e; have := (unhide HB7).size; omega)).trans x.walk, (f.cell (a := ⟨w6.heap.size + 1, 0, none⟩) x.hd (fun e => by have := unhide HOW (w6.heap.size + 1) e; omega)).trans x.dl, ?_⟩
        · refine Rx.fr x.row f (fun k hk e => ?_)
          rw [unhide hM] at hk
          have := unhide HOW _ e; have := unhide HVW k hk; omega
        · exact Rx.fr x.dr f (fun k hk e => by have := unhide HOW _ e; have := unhide HLV8 k hk; omega)
      have HWB9 : Hid (Below w.heap.size w wr) := (unhide HWB8).trans ((unhide HFR).below (by omega) (fun k hk e => by have := unhide HOW _ e; omega))
      clear HFR HRO
      have hwk := (unhide FX9).walk
      have hwl := (unhide FX9).hk
      gi_wp2_with fail
      clear kh khl hwk hwl
      obtain ⟨P, hP0⟩ : ∃ P : Nat, pck stop ((M : Int) + 1) = (P : Int) := ⟨(pck stop ((M : Int) + 1)).toNat, by have := pck_bounds stop M; omega⟩
      have hPM : P ≤ M := by have := (pck_bounds stop M).2; omega
      have hMb : M ≤ 17592186043904 := Nat.le_trans (unhide HDL) hN
      have HPK : Hid (∀ W : World, Calls Try.prog 15 #[.int .i64 stop, .int .i64 ((M : Int) + 1)] W fun e w' => e = .returned (.int .i64 (P : Int)) ∧ w' = W) := fun W => by
        have := pick_any W stop ((M : Int) + 1) (by omega) (by omega)
        rw [hP0] at this
        exact this
      obtain ⟨w9, ew9⟩ : ∃ x, x = wr := ⟨_, rfl⟩
      obtain ⟨W10, eW10⟩ : ∃ W10, W10 = wr.alloc (.cells #[.slice none 0 0] 22) := ⟨_, rfl⟩
      have hs10 : W10.heap.size = w9.heap.size + 1 := by rw [eW10, ew9]; simp
      have hb10 : Below w9.heap.size w9 W10 := by rw [eW10, ew9]; exact (Below.refl _ _).alloc (Nat.le_refl _) _
      have hbl10 : BL W10 w9.heap.size (w9.heap.size + 3) (.slice none 0 0) (R.take 0) := by
        rw [eW10, ew9]
        exact ⟨Bx.new' _ _ _ rfl, by simpa [flt] using Ro.nil _ _, by simp [Value.ownBlock]⟩
      rw [← eW10]
      rw [← ew9] at FX9 HWB9 ⊢
      have HFX := hide (fun X (hX : Below w9.heap.size w9 X) => (unhide FX9).keep hX)
      have HS10 := hide hs10
      clear hs10
      clear eW10 ew9 wr hP0
      have hseq := fun m => doms1_hands m (w6.heap.size + 1) lv R
      have HSEQ := hide hseq
      clear hseq
      apply wpIn_cutB (i := 2) (R := fun X => Below w9.heap.size w9 X ∧ (∃ lv', BL X w9.heap.size (w9.heap.size + 3) lv' (R.take P)) ∧ X.heap[w9.heap.size + 1]? = some (.deferred (some [])))
      case h =>
        refine wpIn_handsH rfl (by omega) (gf := 17) (lb := #[.pointer (some ⟨w6.heap.size + 1, 0, none⟩)]) rfl trivial (enters_of Try.func17 (by kernel_rfl) rfl) (unhide HSEQ (n - 1)) (fun _ => rfl)
          (fun k X => k ≤ P ∧ Below w9.heap.size w9 X ∧ ∃ lv', BL X w9.heap.size (w9.heap.size + 3) lv' (R.take k)) (fun c _ X => c = .exit 2 ∧ Below w9.heap.size w9 X ∧ ∃ lv', BL X w9.heap.size (w9.heap.size + 3) lv' (R.take P))
          (fun k X q => ⟨(unhide HFX X q.2.1).dl, (unhide HFX X q.2.1).dr⟩)
          (fun k X Y q f => ⟨q.1, q.2.1.trans (f.below q.2.1.size (fun j hj e => by have := unhide HS10; unfold two2 at e; omega)), q.2.2.elim (fun lv' z => ⟨lv', z.keep f (by have := unhide HS10; unfold two2; omega) (fun j e => by have := unhide HS10; unfold two2 at e; omega)⟩)⟩)
          (fun c k X Y q f => ⟨q.1, q.2.1.trans (f.below q.2.1.size (fun j hj e => by have := unhide HS10; unfold two2 at e; omega)), q.2.2.elim (fun lv' z => ⟨lv', z.keep f (by have := unhide HS10; unfold two2; omega) (fun j e => by have := unhide HS10; unfold two2 at e; omega)⟩)⟩)
          ⟨Nat.zero_le _, hb10, _, hbl10⟩ ?round ?done ?stop
        case round =>
          rintro k X _ hA
          have hk : k < M := by have : k < R.length := hA; rw [unhide hM] at this; exact this
          obtain ⟨x, hx⟩ : ∃ x, R[k]? = some x := ⟨_, List.getElem?_eq_getElem (by rw [unhide hM]; exact hk)⟩
          simp only [encN, List.getD_eq_getElem?_getD, hx, Option.getD_some]
          have HX := hide hx
          clear hx hA hb10 hbl10
          gi_wp2_with fail
          refine ⟨trivial, ?_⟩
          rintro Y ⟨hkP, hbY, lv1, hbl⟩ hltY _
          have HBY := hide hbY
          have HBL := hide hbl
          have fx := unhide HFX Y hbY
          have c1 := hbl.bx.1
          have f1 := hbl.bx.2
          have cs := fx.st
          have cw := fx.want
          have htl : (R.take k).length = k := by rw [List.length_take, unhide hM]; omega
          have HTL := hide htl
          obtain ⟨va, vc, ev, _, _⟩ := hbl.ro.shape
          rw [htl] at ev
          subst ev
          rw [unhide hM] at cw
          have l1 : w9.heap.size < Y.heap.size := hbl.bx.lt
          have l2 : w.heap.size + 2 < Y.heap.size := fx.hs
          have l3 : w2.heap.size < Y.heap.size := fx.hw
          clear hbY hbl fx htl
          gi_wp2_with fail
          refine wpIn_region_quiet_round (F := Fence.wide) (by kernel_rfl) rfl (by kernel_rfl) (by kernel_rfl) ?_
          repeat (gi_big_quiet_step (fail))
          refine BigFrame.wpQuietIn_want (fun _ _ _ _ => trivial) rfl ?_
          intro K hK
          gi_big_quiet_op
          gi_big_quiet_call (exact ⟨(fun q => by cases q), CallsIn.quiet_of_same (callsIn_wide.2 (unhide HPK _))⟩)
          repeat (gi_big_quiet_step (fail))
          refine wpQuietIn_nil ?_
          intro Z hZ0
          obtain ⟨nq, hZ1⟩ := hZ0
          have hZ : Below Y.heap.size Y Z := by rw [hZ1]; exact (Fr.drewN (S := fun _ => False) nq).below (Nat.le_refl _) (fun _ _ e => e)
          clear hZ1
          have hBLZ := (unhide HBL).keep (Fr.of_below (S := fun _ => False) hZ) (fun e => e) (fun k e => e.elim)
          have hbZ : Below w9.heap.size w9 Z := (unhide HBY).trans (hZ.mono (unhide HBY).size)
          have c1 := hBLZ.bx.1
          have f1 := hBLZ.bx.2
          have hZs := hZ.size
          have s10 : W10.heap.size ≤ w9.heap.size + 1 := by have := unhide HS10; omega
          have s10' : w9.heap.size + 1 ≤ W10.heap.size := by have := unhide HS10; omega
          have HBZ := hide hbZ
          have HBLZ := hide hBLZ
          have HST : Hid (Stay W10.heap.size Y Z) := ⟨hZ.block _ (by omega), hZ.block _ hltY⟩
          clear hZ hbZ hBLZ cs cw
          by_cases hge : P ≤ k
          · have i1 : (P : Int) ≤ (k : Int) := by omega
            have ekP : k = P := by omega
            gi_wp2_with fail
            exact ⟨unhide HST, rfl, unhide HBZ, _, by rw [← ekP]; exact unhide HBLZ⟩
          · have i1 : ¬ (P : Int) ≤ (k : Int) := by omega
            gi_wp2_with (first | (gi_at_builtin; refine wpListIn_appN rfl _ _ rfl (.slice va k vc) (R.take k) rfl ((unhide HBLZ).ro.keep (fun g hg => Below.heap_alloc _ _ _ ((unhide HBLZ).ro.lt g hg))) ⟨Z.heap.size, 0, none⟩ 1 x rfl (new_cells _ #[_] _) (by rw [unhide HTL]; omega) ?_; intro v' w' hr hg hat; rw [unhide HTL] at hr; obtain ⟨va', vc', ev', _, _⟩ := hr.shape; subst ev'; obtain ⟨p1, p2, p3⟩ := (unhide HBLZ).push (x := x) (by omega) (by omega) hr (by rw [unhide HTL]) hg (by simpa using hat); have P1 := hide p1; have P2 := hide p2; have k1 := p3.1; have k2 := p3.2; clear hr hg hat p1 p2 p3) | fail)
            have b2 := unhide P2
            refine ⟨⟨(b2.block _ (by omega) (by omega)).trans (unhide HST).1, (b2.block _ (by omega) (by omega)).trans (unhide HST).2⟩, by omega, (unhide HBZ).trans (b2.below (unhide HBZ).size (fun j hj e => by omega)), _, by rw [take_push (unhide HX)]; exact unhide P1⟩
        case done =>
          rintro k X hE ⟨hkP, hbX, lv', hbl⟩ hK
          have ek : k = P := by have : k = R.length := hE; rw [unhide hM] at this; omega
          rw [ek] at hbl
          rw [unhide HS10] at hK
          exact ⟨Or.inl rfl, rfl, hbX, ⟨lv', hbl⟩, hK⟩
        case stop =>
          rintro c k X ⟨rfl, hbX, hbl⟩ hK
          rw [unhide HS10] at hK
          have HBX := hide hbX
          have HBL := hide hbl
          clear hbX hbl hb10 hbl10
          gi_wp2_with fail
          exact ⟨unhide HBX, unhide HBL⟩
      case hq =>
        rintro X1 ⟨hbX, ⟨lv1, hbl⟩, hK1⟩
        have HBX := hide hbX
        have fx := unhide HFX X1 hbX
        have htl : (R.take P).length = P := by rw [List.length_take, unhide hM]; omega
        have HBL1 := hide hbl
        have c1 := hbl.bx.1
        have cs := fx.st
        have cw := fx.want
        rw [unhide hM] at cw
        have l1 : w9.heap.size < X1.heap.size := hbl.bx.lt
        have l2 : w.heap.size + 2 < X1.heap.size := fx.hs
        have l3 : w2.heap.size < X1.heap.size := fx.hw
        obtain ⟨va, vc, ev, _, _⟩ := hbl.ro.shape
        rw [htl] at ev
        subst ev
        have hrowX := fx.row
        rw [unhide hM] at hrowX
        have HK1 := hide hK1
        have hPc : P ≤ wc := by obtain ⟨_, _, e, q, _⟩ := hrowX.shape; cases e; rw [unhide hM] at q; omega
        have hsl := fun W => slice_head (W := W) wa M wc P hPM hPc (unhide HWN)
        have HSM : Hid (∀ k, Calls Try.prog 10 #[.slice va P vc, .slice wa P wc] (X1.drewN k) fun e w' => e = .returned (.bool true) ∧ ∃ m, w' = (X1.drewN k).drewN m) := fun k => by
          have r1 : Rn X1 (.slice va P vc) (R.take P) := Rn.of_ro hbl.ro
          have r2 : Rn X1 (.slice wa P wc) (R.take P) := by
            obtain ⟨hl, a, cp, e, q1, q2, q3⟩ := hrowX
            cases e
            refine ⟨flt_length zN _, wa, wc, by rw [htl], by rw [htl]; exact hPc, q2, fun h0 => ?_⟩
            obtain ⟨bb, off, e2, hb, hc⟩ := q3 (by rw [unhide hM]; rw [htl] at h0; omega)
            refine ⟨bb, off, e2, hb, fun j hj => ?_⟩
            rw [htl] at hj
            rw [hc j (by rw [unhide hM]; omega)]
            rw [← flt_take zN, List.getElem?_take, if_pos hj]
          exact sameN_any (r1.drewN k) (r2.drewN k)
        clear hbX hbl fx hb10 hbl10 hK1 hrowX
        gi_wp2_with fail
        refine wpIn_region_quiet_lit rfl (by kernel_rfl) (by kernel_rfl) ?_
        repeat (gi_big_quiet_step (fail))
        refine BigFrame.wpQuietIn_want (fun _ _ _ _ => trivial) rfl ?_
        intro K hK
        gi_big_quiet_op
        gi_big_quiet_call (exact ⟨(fun q => by cases q), CallsIn.quiet_of (callsIn_wide.2 (unhide HSM _))⟩)
        repeat (gi_big_quiet_step (fail))
        refine BigFrame.wpQuietIn_want (fun _ _ _ _ => trivial) rfl ?_
        intro K hK
        gi_big_quiet_op
        gi_big_quiet_call (exact ⟨(fun q => by cases q), CallsIn.quiet_of_same (callsIn_wide.2 (unhide HPK _))⟩)
        repeat (gi_big_quiet_step (fail))
        refine wpQuietIn_nil ?_
        intro X2 hX20
        obtain ⟨nq, hX21⟩ := hX20
        have hX2 : Below X1.heap.size X1 X2 := by rw [hX21]; exact (Fr.drewN (S := fun _ => False) nq).below (Nat.le_refl _) (fun _ _ e => e)
        clear hX21
        have hb2 : Below w9.heap.size w9 X2 := (unhide HBX).trans (hX2.mono (unhide HBX).size)
        have hd1 : X2.heap[w9.heap.size + 1]? = some (.deferred (some [])) := (hX2.block _ (lt_of_some (unhide HK1))).trans (unhide HK1)
        have HB2' := hide hb2
        have HD1 := hide hd1
        have hwk := (unhide HFX X2 hb2).walk
        have hwl := (unhide HFX X2 hb2).hk
        clear hX2 hb2 hd1 HSM hsl c1 cs cw l1 l2 l3 HBL1 HK1
        gi_wp2_with fail
        clear hwk hwl
        obtain ⟨W20, eW20⟩ : ∃ W20, W20 = X2.alloc (.cells #[.slice none 0 0] 22) := ⟨_, rfl⟩
        have hs20 : W20.heap.size = X2.heap.size + 1 := by rw [eW20]; simp
        have hb20 : Below X2.heap.size X2 W20 := by rw [eW20]; exact (Below.refl _ _).alloc (Nat.le_refl _) _
        have hbl20 : BL W20 X2.heap.size (X2.heap.size + 3) (.slice none 0 0) (R.take 0) := by
          rw [eW20]
          exact ⟨Bx.new' _ _ _ rfl, by simpa [flt] using Ro.nil _ _, by simp [Value.ownBlock]⟩
        rw [← eW20]
        have HFX2 := hide (fun X (hX : Below X2.heap.size X2 X) => (unhide HFX X2 (unhide HB2')).keep hX)
        have HS20 := hide hs20
        have HS10b : Hid (w9.heap.size + 1 < X2.heap.size) := lt_of_some (unhide HD1)
        clear eW20 hs20
        refine wpIn_handsH rfl (by omega) (gf := 17) (lb := #[.pointer (some ⟨w6.heap.size + 1, 0, none⟩)]) rfl trivial (enters_of Try.func17 (by kernel_rfl) rfl) (unhide HSEQ (n - 1)) (fun _ => rfl)
          (fun k X => Below X2.heap.size X2 X ∧ ∃ lv', BL X X2.heap.size (X2.heap.size + 3) lv' (R.take k)) (fun _ _ _ => False)
          (fun k X q => ⟨(unhide HFX2 X q.1).dl, (unhide HFX2 X q.1).dr⟩)
          (fun k X Y q f => ⟨q.1.trans (f.below q.1.size (fun j hj e => by have := unhide HS20; unfold two2 at e; omega)), q.2.elim (fun lv' z => ⟨lv', z.keep f (by have := unhide HS20; unfold two2; omega) (fun j e => by have := unhide HS20; unfold two2 at e; omega)⟩)⟩)
          (fun _ _ _ _ q _ => q) ⟨hb20, _, hbl20⟩ ?round ?done ?stop
        case stop =>
          rintro c k X q
          exact q.elim
        case round =>
          rintro k X _ hA
          have hk : k < M := by have : k < R.length := hA; rw [unhide hM] at this; exact this
          obtain ⟨x, hx⟩ : ∃ x, R[k]? = some x := ⟨_, List.getElem?_eq_getElem (by rw [unhide hM]; exact hk)⟩
          simp only [encN, List.getD_eq_getElem?_getD, hx, Option.getD_some]
          have HX := hide hx
          clear hx hA hb20 hbl20
          gi_wp2_with fail
          refine ⟨trivial, ?_⟩
          rintro Y ⟨hbY, lv1, hbl⟩ hltY ⟨r0, hr0⟩
          have HBY := hide hbY
          have HBL := hide hbl
          have HR0 := hide hr0
          have c1 := hbl.bx.1
          have f1 := hbl.bx.2
          have htl : (R.take k).length = k := by rw [List.length_take, unhide hM]; omega
          have HTL := hide htl
          obtain ⟨va, vc, ev, _, _⟩ := hbl.ro.shape
          rw [htl] at ev
          subst ev
          have l1 : X2.heap.size < Y.heap.size := hbl.bx.lt
          have s20 : W20.heap.size ≤ X2.heap.size + 1 := by have := unhide HS20; omega
          have s20' : X2.heap.size + 1 ≤ W20.heap.size := by have := unhide HS20; omega
          have hwk := (unhide HFX2 Y hbY).walk
          have hwl := (unhide HFX2 Y hbY).hk
          have hw7 : w7.heap.size < X2.heap.size := by have := (unhide FX9).hk; have := (unhide HB2').size; omega
          clear hbY hbl htl hr0
          gi_wp2_with (first | (gi_at_builtin; refine wpListIn_appN rfl _ _ rfl (.slice va k vc) (R.take k) rfl ((unhide HBL).ro.keep (fun g hg => Below.heap_alloc _ _ _ ((unhide HBL).ro.lt g hg))) ⟨Y.heap.size, 0, none⟩ 1 x rfl (new_cells _ #[_] _) (by rw [unhide HTL]; omega) ?_; intro v' w' hr hg hat; rw [unhide HTL] at hr; obtain ⟨va', vc', ev', _, _⟩ := hr.shape; subst ev'; obtain ⟨p1, p2, p3⟩ := (unhide HBL).push (x := x) (by omega) (by omega) hr (by rw [unhide HTL]) hg (by simpa using hat); have hgr := (unhide HBL).grown hg; have hwk := (hgr.cell (a := ⟨w7.heap.size, 0, none⟩) hwl (by show ¬ X2.heap.size + 3 ≤ w7.heap.size; omega)).trans hwk; have hwl := Nat.lt_of_lt_of_le hwl hgr.size; have P1 := hide p1; have P2 := hide p2; have k1 := p3.1; have k2 := p3.2; clear hr hg hat p1 p2 p3 hgr) | fail)
          obtain ⟨Y1, eY1⟩ : ∃ Y1, Y1 = w'.setCell ⟨X2.heap.size, 0, none⟩ (.slice va' (k + 1) vc') := ⟨_, rfl⟩
          have hsY1 : Y1.heap.size = w'.heap.size := by rw [eY1]; simp [World.setCell]
          rw [← eY1, ← hsY1]
          rw [← eY1] at P1 P2
          have hP2 := unhide P2
          have hbY1 : Below X2.heap.size X2 Y1 := (unhide HBY).trans (hP2.below (unhide HBY).size (fun j hj e => by omega))
          have hrec1 : Y1.heap[W20.heap.size + 1]? = some (.loop r0) := (hP2.block _ (lt_of_some (unhide HR0)) (by omega)).trans (unhide HR0)
          have hst1 : Stay W20.heap.size Y Y1 := ⟨hP2.block _ (by omega) (by omega), hP2.block _ hltY (by omega)⟩
          have hblY1 : BL Y1 X2.heap.size (X2.heap.size + 3) (.slice va' (k + 1) vc') (R.take (k + 1)) := by rw [take_push (unhide HX)]; exact unhide P1
          have HY1 := hide hblY1
          have HBY1 := hide hbY1
          have HST1 := hide hst1
          have hsz1 : W20.heap.size + 1 < Y1.heap.size := lt_of_some hrec1
          obtain ⟨W30, eW30⟩ : ∃ W30, W30 = Y1.alloc (.cells #[.slice none 0 0] 22) := ⟨_, rfl⟩
          rw [← eW30]
          have hs30 : W30.heap.size = Y1.heap.size + 1 := by rw [eW30]; simp
          have hb30 : Below Y1.heap.size Y1 W30 := by rw [eW30]; exact (Below.refl _ _).alloc (Nat.le_refl _) _
          have hbl30 : BL W30 Y1.heap.size (Y1.heap.size + 2) (.slice none 0 0) (R.take 0) := by
            rw [eW30]
            exact ⟨Bx.new' _ _ _ rfl, by simpa [flt] using Ro.nil _ _, by simp [Value.ownBlock]⟩
          have hrec3 : W30.heap[W20.heap.size + 1]? = some (.loop r0) := (hb30.block _ hsz1).trans hrec1
          have HFX3 := hide (fun X (hX : Below Y1.heap.size Y1 X) => (unhide HFX2 Y1 (unhide HBY1)).keep hX)
          have HS30 := hide hs30
          clear eY1 eW30 hsY1 hP2 hbY1 hrec1 hst1 hblY1 hs30 P1 P2 k1 k2 c1 f1 hwk hwl HBL HBY HR0
          refine wpIn_handsN rfl hrec3 (by omega) (gf := 17) (lb := #[.pointer (some ⟨w6.heap.size + 1, 0, none⟩)]) rfl trivial (enters_of Try.func17 (by kernel_rfl) rfl) (Hands.inRound _ (unhide HSEQ _)) (fun _ => rfl)
            (fun j X => Below Y1.heap.size Y1 X ∧ ∃ lv', BL X Y1.heap.size (Y1.heap.size + 2) lv' (R.take j)) (fun _ _ _ => False)
            (fun j X q => ⟨(unhide HFX3 X q.1).dl, (unhide HFX3 X q.1).dr⟩)
            (fun j X Y q f => ⟨q.1.trans (f.below q.1.size (fun i hi e => by have := unhide HS30; unfold one1 at e; omega)), q.2.elim (fun lv' z => ⟨lv', z.keep f (by have := unhide HS30; unfold one1; omega) (fun i e => by have := unhide HS30; unfold one1 at e; omega)⟩)⟩)
            (fun _ _ _ _ q _ => q) ⟨hb30, _, hbl30⟩ ?round3 ?done3 ?stop3
          case stop3 =>
            rintro c k X q
            exact q.elim
          case round3 =>
            rintro l j X _ hA
            have hj : j < M := by have : j < R.length := hA; rw [unhide hM] at this; exact this
            obtain ⟨y, hy⟩ : ∃ y, R[j]? = some y := ⟨_, List.getElem?_eq_getElem (by rw [unhide hM]; exact hj)⟩
            simp only [encN, List.getD_eq_getElem?_getD, hy, Option.getD_some]
            have HYJ := hide hy
            clear hy hA hb30 hbl30 hrec3
            gi_wp2_with fail
            refine ⟨trivial, ?_⟩
            rintro V ⟨hbV, lv2, hbl⟩ hltV
            have HBV := hide hbV
            have HBLV := hide hbl
            have c1 := hbl.bx.1
            have f1 := hbl.bx.2
            have htl : (R.take j).length = j := by rw [List.length_take, unhide hM]; omega
            have HTJ := hide htl
            obtain ⟨va2, vc2, ev, _, _⟩ := hbl.ro.shape
            rw [htl] at ev
            subst ev
            have l1 : Y1.heap.size < V.heap.size := hbl.bx.lt
            have s30 : W30.heap.size ≤ Y1.heap.size + 1 := by have := unhide HS30; omega
            have s30' : Y1.heap.size + 1 ≤ W30.heap.size := by have := unhide HS30; omega
            have hwk := (unhide HFX3 V hbV).want
            have hwl := (unhide HFX3 V hbV).hw
            rw [unhide hM] at hwk
            have hw2Y : w2.heap.size < Y1.heap.size := by have := (unhide HFX2 Y1 (unhide HBY1)).hw; omega
            clear hbV hbl htl
            gi_wp2_with (first | (gi_at_builtin; refine wpListIn_appN rfl _ _ rfl (.slice va2 j vc2) (R.take j) rfl ((unhide HBLV).ro.keep (fun g hg => Below.heap_alloc _ _ _ ((unhide HBLV).ro.lt g hg))) ⟨V.heap.size, 0, none⟩ 1 y rfl (new_cells _ #[_] _) (by rw [unhide HTJ]; omega) ?_; intro v' w' hr hg hat; rw [unhide HTJ] at hr; obtain ⟨va', vc', ev', _, _⟩ := hr.shape; subst ev'; obtain ⟨p1, p2, p3⟩ := (unhide HBLV).push (x := y) (by omega) (by omega) hr (by rw [unhide HTJ]) hg (by simpa using hat); have hgr := (unhide HBLV).grown hg; have hwk := (hgr.cell (a := ⟨w2.heap.size, 0, none⟩) hwl (by show ¬ Y1.heap.size + 2 ≤ w2.heap.size; omega)).trans hwk; have hwl := Nat.lt_of_lt_of_le hwl hgr.size; have hne2 : w2.heap.size ≠ Y1.heap.size := (by omega); have hjM : ¬ (M : Int) < (j : Int) + 1 := (by omega); have P1 := hide p1; have P2 := hide p2; have k1 := p3.1; have k2 := p3.2; clear hr hg hat p1 p2 p3 hgr) | fail)
            have hP2 := unhide P2
            refine ⟨hP2.block _ (by omega) (by omega), (unhide HBV).trans (hP2.below (unhide HBV).size (fun i hi e => by omega)), _, by rw [take_push (unhide HYJ)]; exact unhide P1⟩
          case done3 =>
            rintro j X hE ⟨hbX3, lv3, hbl3⟩
            have ej : j = R.length := hE
            rw [ej, List.take_of_length_le (Nat.le_refl _)] at hbl3
            have fx := unhide HFX3 X hbX3
            have houter := (unhide HY1).keep (Fr.of_below (S := fun _ => False) hbX3) (fun e => e) (fun k e => e.elim)
            have HOU := hide houter
            have HBX3 := hide hbX3
            have c13 := houter.bx.1
            have c15 := hbl3.bx.1
            have c7 := fx.want
            rw [unhide hM] at c7
            have l13 := houter.bx.lt
            have l15 := hbl3.bx.lt
            have l7 := fx.hw
            obtain ⟨va3, vc3, ev3, _, _⟩ := hbl3.ro.shape
            subst ev3
            have HSM3 := hide (sameN_any (Rn.of_ro hbl3.ro) fx.row)
            rw [unhide hM] at c15 HSM3
            clear houter hbl3 fx hbX3 hb30 hbl30 hrec3 ej hE
            gi_wp2_with fail
            refine ⟨trivial, (fun q => by cases q), (CallsIn.inRound _ (callsIn_wide.2 (unhide HSM3))).mono ?_⟩
            rintro e X4 ⟨rfl, k4, eX4⟩
            have hX4 : Below X.heap.size X X4 := by rw [eX4]; exact (Fr.drewN (S := fun _ => False) k4).below (Nat.le_refl _) (fun _ _ e => e)
            have c13 := (hX4.cell (p := ⟨X2.heap.size, 0, none⟩) l13).trans c13
            have c7 := (hX4.cell (p := ⟨w2.heap.size, 0, none⟩) l7).trans c7
            have l13 := Nat.lt_of_lt_of_le l13 hX4.size
            have l7 := Nat.lt_of_lt_of_le l7 hX4.size
            have hkM : ¬ (M : Int) < (k : Int) + 1 := by omega
            have HX4 := hide hX4
            clear eX4 hX4 c15 HSM3
            gi_wp2_with fail
            have hz := (unhide HX4).size
            have hz1 := (unhide HBX3).size
            have b14 : Below Y1.heap.size Y1 X4 := (unhide HBX3).trans ((unhide HX4).mono hz1)
            refine ⟨⟨(b14.block _ (by omega)).trans (unhide HST1).1, (b14.block _ hsz1).trans (unhide HST1).2⟩, (unhide HBY1).trans (b14.mono (unhide HBY1).size), _, (unhide HOU).keep (Fr.of_below (S := fun _ => False) (unhide HX4)) (fun e => e) (fun k e => e.elim)⟩
        case done =>
          rintro k X hE ⟨hbX3, lv3, hbl3⟩ hK
          have ek : k = R.length := hE
          rw [ek, List.take_of_length_le (Nat.le_refl _)] at hbl3
          have fx := unhide HFX2 X hbX3
          have HBX3 := hide hbX3
          have c13 := hbl3.bx.1
          have c7 := fx.want
          rw [unhide hM] at c7
          have l13 := hbl3.bx.lt
          have l7 := fx.hw
          obtain ⟨va3, vc3, ev3, _, _⟩ := hbl3.ro.shape
          subst ev3
          have HSM3 := hide (sameN_any (Rn.of_ro hbl3.ro) fx.row)
          rw [unhide hM] at c13 HSM3
          have HRES := hide fx.res
          have HK2 := hide hK
          have HK1 : Hid (X.heap[w9.heap.size + 1]? = some (.deferred (some []))) := (hbX3.block _ (unhide HS10b)).trans (unhide HD1)
          clear hbl3 fx hbX3 hb20 hbl20 ek hE hK
          gi_wp2_with fail
          refine ⟨trivial, (fun q => by cases q), (callsIn_wide.2 (unhide HSM3)).mono ?_⟩
          rintro e X4 ⟨rfl, k4, eX4⟩
          have hX4 : Below X.heap.size X X4 := by rw [eX4]; exact (Fr.drewN (S := fun _ => False) k4).below (Nat.le_refl _) (fun _ _ e => e)
          have res4 := (unhide HRES).keep (Fr.of_below (S := fun _ => False) hX4) (fun e => e)
          have HRES4 := hide res4
          have c6 := res4.1
          have f6 := res4.2
          have l6 := res4.lt
          have HX4 := hide hX4
          clear eX4 hX4 c13 c7 l13 l7 HSM3 res4
          gi_wp2_with fail
          have hz2 : w.heap.size + 2 < w9.heap.size := (unhide FX9).hs
          have hz3 := unhide HS10b
          have hz4 := unhide HS20
          have hz5 := (unhide HBX3).size
          have hz6 := (unhide HX4).size
          have hz7 : W20.heap.size < X.heap.size := lt_of_some (unhide HK2)
          have hs10' := unhide HS10
          obtain ⟨Xr, eXr⟩ : ∃ Xr, Xr = X4.setCell ⟨w.heap.size + 1 + 1, 0, none⟩ (.bool true) := ⟨_, rfl⟩
          have hsr : Xr.heap.size = X4.heap.size := by rw [eXr]; simp [World.setCell]
          have kr : ∀ q o, q ≠ w.heap.size + 2 → X.heap[q]? = some o → Xr.heap[q]? = some o := fun q o hq ho => by
            rw [eXr]
            exact (Below.heap_setCell _ _ _ _ (by show q ≠ w.heap.size + 1 + 1; omega)).trans (((unhide HX4).block q (lt_of_some ho)).trans ho)
          have k2 : Xr.heap[W20.heap.size]? = some (.deferred (some [])) := kr _ _ (by omega) (unhide HK2)
          have k1 : (Xr.putObj W20.heap.size (.deferred none)).heap[W10.heap.size]? = some (.deferred (some [])) := (World.putObj_heap_other (by omega)).trans (by rw [hs10']; exact kr _ _ (by omega) (unhide HK1))
          have e5 := (((unhide HRES4).set (.bool true)).keep (fr_sh W20.heap.size _ (.deferred none)) (by show ¬ _ = _; omega)).keep (fr_sh W10.heap.size _ (.deferred none)) (by show ¬ _ = _; omega)
          have he5 := e5.1
          have bX4 : Below w.heap.size w X4 := (((unhide HWB9).trans ((unhide HB2').mono (by omega))).trans ((unhide HBX3).mono (by omega))).trans ((unhide HX4).mono (by omega))
          have bX : Below w.heap.size w Xr := by rw [eXr]; exact bX4.setCell (p := ⟨w.heap.size + 1 + 1, 0, none⟩) (by show w.heap.size ≤ w.heap.size + 1 + 1; omega) _
          rw [← eXr]
          rw [show X4.setCell ⟨w.heap.size + 2, 0, none⟩ (.bool true) = Xr from eXr.symm] at he5
          refine ⟨by simp, .inl ⟨_, _, rfl, run_takeDeferred k2, by simp, .inl ⟨_, _, rfl, run_takeDeferred k1, .bool true, ?_, rfl, (bX.trans ((fr_sh W20.heap.size _ (.deferred none)).below bX.size (fun k hk e => by omega))).trans ((fr_sh W10.heap.size _ (.deferred none)).below (by simp; omega) (fun k hk e => by omega))⟩⟩⟩
          simp [results, Try.f4, go_sem, he5]
end Go.Proofs.Ytfeombhileiamaa
