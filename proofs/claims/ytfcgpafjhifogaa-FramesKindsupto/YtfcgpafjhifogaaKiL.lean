/-
  FramesKinds: its law.
-/
import Derived.Test.YtfcgpafjhifogaaSh
import Derived.Test.YtfcgpafjhifogaaStkS
import Derived.Test.YtfcgpafjhifogaaStkV
import Derived.Test.YtfcgpafjhifogaaStkF
import Derived.Lib.SlBytesConst
namespace Go.Proofs.Ytfcgpafjhifogaa
open Go.RowKit
set_option linter.unusedVariables false
set_option linter.unusedSimpArgs false
/-- Two stacks that share nothing. -/
structure DJ (p : Nat) (v : Value) (q : Nat) (u : Value) : Prop where
  ne : p ≠ q
  vq : v.ownBlock ≠ some q
  up : u.ownBlock ≠ some p
  vu : ∀ k, v.ownBlock = some k → u.ownBlock ≠ some k
theorem DJ.symm {p : Nat} {v : Value} {q : Nat} {u : Value} (h : DJ p v q u) : DJ q u p v := ⟨fun e => h.ne e.symm, h.up, h.vq, fun k hk e => h.vu k e hk⟩
theorem DJ.turn {p : Nat} {v v' : Value} {q : Nat} {u : Value} {w : World} (h : DJ p v q u) (hq : q < w.heap.size) (hu : ∀ k, u.ownBlock = some k → k < w.heap.size) (hn : ∀ k, v'.ownBlock = some k → v.ownBlock = some k ∨ w.heap.size ≤ k) : DJ p v' q u := by
  refine ⟨h.ne, fun e => ?_, h.up, fun k hk e => ?_⟩
  · rcases hn q e with r | r
    · exact h.vq r
    · omega
  · rcases hn k hk with r | r
    · exact h.vu k r e
    · have := hu k e; omega
theorem Sk.keepD {w w' : World} {p sz q : Nat} {v u u' : Value} {n : Nat} {xs : List Value} (h : Sk w p sz v n xs) (d : DJ q u p v) (s : StS q w u w' u') : Sk w' p sz v n xs :=
  h.fr s.fr (fun e => by rcases e with e | e; exact d.ne e.symm; exact d.vq e) (fun k hk e => by rcases e with e | e; exact d.up (e ▸ hk); exact d.vu k e hk)
/-- The three stacks. -/
structure K3 (B : Nat) (w : World) (pa pb pc : Nat) (va vb vc : Value) (na nb nc : Nat) (xa xb xc : List Value) : Prop where
  a : Sk w pa 1 va na xa
  b : Sk w pb 2 vb nb xb
  c : Sk w pc 3 vc nc xc
  ab : DJ pa va pb vb
  ac : DJ pa va pc vc
  bc : DJ pb vb pc vc
  la : B ≤ pa ∧ ∀ k, va.ownBlock = some k → B ≤ k
  lb : B ≤ pb ∧ ∀ k, vb.ownBlock = some k → B ≤ k
  lc : B ≤ pc ∧ ∀ k, vc.ownBlock = some k → B ≤ k
  sz : B ≤ w.heap.size
section
variable {B : Nat} {w w' : World} {pa pb pc : Nat} {va vb vc : Value} {na nb nc : Nat} {xa xb xc : List Value}
theorem Sk.keepB {p sz : Nat} {v : Value} {n : Nat} {xs : List Value} (h : Sk w p sz v n xs) (hb : Below w.heap.size w w') : Sk w' p sz v n xs := h.fr (Fr.of_below (S := fun _ => False) hb) (fun e => e) (fun _ _ e => e)
theorem K3.keep (h : K3 B w pa pb pc va vb vc na nb nc xa xb xc) (hb : Below w.heap.size w w') : K3 B w' pa pb pc va vb vc na nb nc xa xb xc :=
  ⟨h.a.keepB hb, h.b.keepB hb, h.c.keepB hb, h.ab, h.ac, h.bc, h.la, h.lb, h.lc, Nat.le_trans h.sz hb.size⟩
theorem K3.turnA {v' : Value} {n' : Nat} {x' : List Value} (h : K3 B w pa pb pc va vb vc na nb nc xa xb xc) (k : Sk w' pa 1 v' n' x') (s : StS pa w va w' v') : K3 B w' pa pb pc v' vb vc n' nb nc x' xb xc ∧ Below B w w' :=
  ⟨⟨k, h.b.keepD h.ab s, h.c.keepD h.ac s, h.ab.turn h.b.lt h.b.row.lt s.new, h.ac.turn h.c.lt h.c.row.lt s.new, h.bc, ⟨h.la.1, fun k hk => by
    rcases s.new k hk with r | r
    · exact h.la.2 k r
    · exact Nat.le_trans h.sz r⟩, h.lb, h.lc, Nat.le_trans h.sz s.fr.size⟩, s.fr.below h.sz (fun k hk e => by rcases e with e | e; have := h.la.1; omega; have := h.la.2 k e; omega)⟩
theorem K3.turnB {v' : Value} {n' : Nat} {x' : List Value} (h : K3 B w pa pb pc va vb vc na nb nc xa xb xc) (k : Sk w' pb 2 v' n' x') (s : StS pb w vb w' v') : K3 B w' pa pb pc va v' vc na n' nc xa x' xc ∧ Below B w w' :=
  ⟨⟨h.a.keepD h.ab.symm s, k, h.c.keepD h.bc s, (h.ab.symm.turn h.a.lt h.a.row.lt s.new).symm, h.ac, h.bc.turn h.c.lt h.c.row.lt s.new, h.la, ⟨h.lb.1, fun k hk => by
    rcases s.new k hk with r | r
    · exact h.lb.2 k r
    · exact Nat.le_trans h.sz r⟩, h.lc, Nat.le_trans h.sz s.fr.size⟩, s.fr.below h.sz (fun k hk e => by rcases e with e | e; have := h.lb.1; omega; have := h.lb.2 k e; omega)⟩
theorem K3.turnC {v' : Value} {n' : Nat} {x' : List Value} (h : K3 B w pa pb pc va vb vc na nb nc xa xb xc) (k : Sk w' pc 3 v' n' x') (s : StS pc w vc w' v') : K3 B w' pa pb pc va vb v' na nb n' xa xb x' ∧ Below B w w' :=
  ⟨⟨h.a.keepD h.ac.symm s, h.b.keepD h.bc.symm s, k, h.ab, (h.ac.symm.turn h.a.lt h.a.row.lt s.new).symm, (h.bc.symm.turn h.b.lt h.b.row.lt s.new).symm, h.la, h.lb, ⟨h.lc.1, fun k hk => by
    rcases s.new k hk with r | r
    · exact h.lc.2 k r
    · exact Nat.le_trans h.sz r⟩, Nat.le_trans h.sz s.fr.size⟩, s.fr.below h.sz (fun k hk e => by rcases e with e | e; have := h.lc.1; omega; have := h.lc.2 k e; omega)⟩
end
theorem ptr51 (p : Nat) (W : World) : (binOp .eql 51 (.pointer (some ⟨p, 0, none⟩)) (.pointer none)).run Try.prog W = .ok (.bool false) W := by kernel_rfl
theorem ptr53 (p : Nat) (W : World) : (binOp .eql 53 (.pointer (some ⟨p, 0, none⟩)) (.pointer none)).run Try.prog W = .ok (.bool false) W := by kernel_rfl
theorem ptr55 (p : Nat) (W : World) : (binOp .eql 55 (.pointer (some ⟨p, 0, none⟩)) (.pointer none)).run Try.prog W = .ok (.bool false) W := by kernel_rfl
set_option maxRecDepth 100000 in
set_option maxHeartbeats 1600000 in
theorem pick4_any (w : World) (x : Int) (hx : x < 0) (h64 : -9223372036854775808 ≤ x) : Calls Try.prog 34 #[.int .i64 x, .int .i64 4] w fun e w' => (∃ r : Nat, r < 4 ∧ e = .returned (.int .i64 (r : Int))) ∧ w' = w := by
  obtain ⟨m, hm⟩ : ∃ m, x.tmod 4 = m := ⟨_, rfl⟩
  have hm1 : -4 < m ∧ m ≤ 0 := by
    rw [← hm]
    have h1 := Int.tmod_eq_emod_of_nonneg (a := -x) (b := 4) (by omega)
    have h2 : (-x).tmod 4 = - x.tmod 4 := Int.neg_tmod x 4
    omega
  have hw1 : IntKind.i64.wrap m = m := by go_arith
  have h4 : ((4 : Int) == 0) = false := rfl
  by_cases q : m < 0
  · have q' : decide (m < 0) = true := decide_eq_true q
    have hw2 : IntKind.i64.wrap (m + 4) = m + 4 := by go_arith
    go_enter Try.func34, Try.ntmps34
    go_wp2_with fail
    go_ret
    exact ⟨⟨(m + 4).toNat, by omega, by rw [Int.toNat_of_nonneg (by omega)]; rfl⟩, rfl⟩
  · have q' : decide (m < 0) = false := decide_eq_false q
    go_enter Try.func34, Try.ntmps34
    go_wp2_with fail
    go_ret
    exact ⟨⟨m.toNat, by omega, by rw [Int.toNat_of_nonneg (by omega)]; rfl⟩, rfl⟩
/-- A text of two bytes. -/
def enS (p : Int × Int) : List Value := [.string ⟨#[UInt8.ofNat p.1.toNat, UInt8.ofNat p.2.toNat]⟩]
theorem zS : ∀ p, (enS p).length = 1 := fun _ => rfl
/-- These frames go with these numbers: one slot each. -/
def FrK (l : List (Int × Int)) (ys : List Fmv) : Prop := ys.length = l.length ∧ ∀ (i : Nat) (p : Int × Int) (y : Fmv), l[i]? = some p → ys[i]? = some y → y.fn = p.1 ∧ y.pc = p.2 ∧ ∃ a c, y.sv = .slice a 1 c
/-- Numbers of a byte. -/
def B8 (l : List (Int × Int)) : Prop := ∀ p ∈ l, 0 ≤ p.1 ∧ p.1 < 256 ∧ 0 ≤ p.2 ∧ p.2 < 256
/-- The state between two numbers of the script. -/
def KJ (B : Nat) (w : World) (pa pb pc : Nat) (N : Nat) : Prop := ∃ (va vb vc : Value) (l : List (Int × Int)) (ys : List Fmv), K3 B w pa pb pc va vb vc l.length l.length l.length (flt enS l) (flt enI l) (flt enM ys) ∧ FrK l ys ∧ B8 l ∧ l.length ≤ N
/-- A row of two bytes as a text. -/
theorem conv2 (V : World) (q : Nat) (a b : Int) (h : 0 ≤ a ∧ a < 256 ∧ 0 ≤ b ∧ b < 256) (hV : V.heap[q]? = some (.cells #[.int .u8 a, .int .u8 b] 5)) : (convert 60 9 (.slice (some ⟨q, 0, none⟩) 2 2)).run Try.prog V = .ok (.string ⟨#[UInt8.ofNat a.toNat, UInt8.ofNat b.toNat]⟩) V := by
  obtain ⟨c, _, _⟩ := blk_cells hV
  refine run_convert_bytes_back _ 60 9 5 ⟨q, 0, none⟩ 2 [UInt8.ofNat a.toNat, UInt8.ofNat b.toNat] Try.underlying60 Try.underlying5 Try.underlying9 (fun j hj => ?_)
  rw [Go.WideShapes.add_plain, Nat.zero_add, c]
  match j, hj with
  | 0, _ => simp; omega
  | 1, _ => simp; omega
theorem FrK.push {l : List (Int × Int)} {ys : List Fmv} (h : FrK l ys) (p : Int × Int) (a : Option Addr) (c : Nat) : FrK (l ++ [p]) (ys ++ [⟨p.1, p.2, .slice a 1 c⟩]) := by
  refine ⟨by simp [h.1], fun i q y hq hy => ?_⟩
  by_cases k : i < l.length
  · rw [List.getElem?_append_left k] at hq
    rw [List.getElem?_append_left (by rw [h.1]; exact k)] at hy
    exact h.2 i q y hq hy
  · have hi : i = l.length := by have := (List.getElem?_eq_some_iff.1 hq).1; simp at this; omega
    subst hi
    rw [List.getElem?_append_right (Nat.le_refl _), Nat.sub_self] at hq
    rw [List.getElem?_append_right (by rw [h.1]; exact Nat.le_refl _), h.1, Nat.sub_self] at hy
    cases hq; cases hy
    exact ⟨rfl, rfl, a, c, rfl⟩
theorem FrK.take {l : List (Int × Int)} {ys : List Fmv} (h : FrK l ys) (k : Nat) : FrK (l.take k) (ys.take k) := by
  refine ⟨by simp [h.1], fun i q y hq hy => ?_⟩
  rw [List.getElem?_take] at hq hy
  split at hq
  · rename_i hk
    rw [if_pos hk] at hy
    exact h.2 i q y hq hy
  · cases hq
theorem oneS (l : List (Int × Int)) : ∀ u ∈ flt enS l, u.oneCell' = true := fun u hu => by
  simp only [flt, List.mem_flatMap, enS, List.mem_singleton] at hu
  obtain ⟨_, _, rfl⟩ := hu
  rfl
theorem bool_neqK : ∀ (b c : Bool) (w : World), (binOp .neq 4 (.bool b) (.bool c)).run Try.prog w = .ok (.bool (b != c)) w := fun b c w => by cases b <;> cases c <;> kernel_rfl
set_option maxRecDepth 100000 in
set_option maxHeartbeats 6400000 in
theorem kindsLaw {w : World} {lv : Value} {s : List Int} (hs : Rx w 1 lv s.length (flt enN s)) (hN : s.length ≤ 1048576) (hI : ∀ x ∈ s, -9223372036854775808 ≤ x ∧ x < 9223372036854775808) :
    Calls Try.prog 6 #[lv] w fun e w' => e = .returned (.bool true) ∧ Below w.heap.size w w' := by
  have HC := hide (fun i p (hp : s[i]? = some p) => hs.elem zN hp)
  obtain ⟨_, a, cap, rfl, hlc, hcm, _⟩ := hs
  obtain ⟨L, hL⟩ : ∃ L, Hid (s.length = L) := ⟨_, hide rfl⟩
  rw [unhide hL] at hN hlc HC ⊢
  unfold maxLen at hcm
  have HI := hide hI
  have HA := hide (fun W => kS.new_any (w := W) (lv := .slice none 0 0) (m := 0) (ys := []) (Rx.nil W 1) (fun u hu => by simp at hu) (by omega))
  have HB := hide (fun W => kV.new_any (w := W) (lv := .slice none 0 0) (m := 0) (ys := []) (Rx.nil W 2) (fun u hu => by simp at hu) (by omega))
  have HCc := hide (fun W => kF.new_any (w := W) (lv := .slice none 0 0) (m := 0) (ys := []) (Rx.nil W 3) (fun u hu => by simp at hu) (by omega))
  have HSW := hide shown_any
  clear hI
  go_enter Try.func6, Try.ntmps6
  go_wp2_with fail
  refine (unhide HA _).mono ?_
  rintro e w1 ⟨rfl, va, sk1, hb1, o1⟩
  have K1 := hide (And.intro sk1 (And.intro hb1 o1))
  clear sk1 hb1 o1
  go_wp2_with fail
  refine (unhide HB _).mono ?_
  rintro e w2 ⟨rfl, vb, sk2, hb2, o2⟩
  have K2 := hide (And.intro sk2 (And.intro hb2 o2))
  clear sk2 hb2 o2
  go_wp2_with fail
  refine (unhide HCc _).mono ?_
  rintro e w3 ⟨rfl, vc, sk3, hb3, o3⟩
  have K3h := hide (And.intro sk3 (And.intro hb3 o3))
  clear sk3 hb3 o3
  have q51 := ptr51
  have q53 := ptr53
  have q55 := ptr55
  go_wp2_with fail
  refine (unhide HSW _).mono ?_
  rintro e w4 ⟨rfl, hb4⟩
  have HK : Hid (KJ w.heap.size w4 w.heap.size w1.heap.size w2.heap.size 0) := by
    obtain ⟨sk1, hb1, o1⟩ := unhide K1
    obtain ⟨sk2, hb2, o2⟩ := unhide K2
    obtain ⟨sk3, hb3, o3⟩ := unhide K3h
    have s1 := sk1.lt
    have s2 := sk2.lt
    have s3 := sk3.lt
    have z1 := hb1.size
    have z2 := hb2.size
    have z3 := hb3.size
    have z4 := hb4.size
    have r1 := sk1.row.lt
    have r2 := sk2.row.lt
    refine ⟨va, vb, vc, [], [], ⟨((sk1.keepB hb2).keepB hb3).keepB hb4, (sk2.keepB hb3).keepB hb4, sk3.keepB hb4, ⟨by omega, fun e => by have := r1 _ e; omega, fun e => by have := o2 _ e; omega, fun k e1 e2 => by have := r1 _ e1; have := o2 _ e2; omega⟩, ⟨by omega, fun e => by have := r1 _ e; omega, fun e => by have := o3 _ e; omega, fun k e1 e2 => by have := r1 _ e1; have := o3 _ e2; omega⟩, ⟨by omega, fun e => by have := r2 _ e; omega, fun e => by have := o3 _ e; omega, fun k e1 e2 => by have := r2 _ e1; have := o3 _ e2; omega⟩, ⟨Nat.le_refl _, fun k e => by have := o1 _ e; omega⟩, ⟨by omega, fun k e => by have := o2 _ e; omega⟩, ⟨by omega, fun k e => by have := o3 _ e; omega⟩, by omega⟩, ⟨rfl, fun i p y h => by simp at h⟩, fun p hp => by simp at hp, Nat.le_refl _⟩
  have HW4 : Hid (Below w.heap.size w w4) := by
    obtain ⟨sk1, hb1, o1⟩ := unhide K1
    obtain ⟨sk2, hb2, o2⟩ := unhide K2
    obtain ⟨sk3, hb3, o3⟩ := unhide K3h
    have z1 := hb1.size
    have z2 := hb2.size
    have z3 := hb3.size
    exact ((hb1.trans (hb2.mono (by omega))).trans (hb3.mono (by omega))).trans (hb4.mono (by omega))
  obtain ⟨B, hB⟩ : ∃ B, Hid (w.heap.size = B) := ⟨_, hide rfl⟩
  obtain ⟨pa, hpa⟩ : ∃ B, Hid (w.heap.size = B) := ⟨_, hide rfl⟩
  obtain ⟨pb, hpb⟩ : ∃ B, Hid (w1.heap.size = B) := ⟨_, hide rfl⟩
  obtain ⟨pc, hpc⟩ : ∃ B, Hid (w2.heap.size = B) := ⟨_, hide rfl⟩
  rw [unhide hpa, unhide hpb, unhide hpc] at HK ⊢
  clear hb4 K1 K2 K3h HA HB HCc HSW q51 q53 q55
  go_wp2_with fail
  go_loopg [6] L (fun g t6 wr => ∃ (i : Nat), Hid (i + g = L) ∧ t6 = .int .i64 (i : Int) ∧ Hid (KJ pa wr pa pb pc i ∧ Below w.heap.size w wr))
  case atStart => exact ⟨0, by unfold Hid; omega, rfl, unhide HK, unhide HW4⟩
  case round =>
    obtain ⟨i, hi, rfl, hK⟩ := hrel
    obtain ⟨G0, hG0⟩ : ∃ G0 : Nat, Hid (G0 = gk) := ⟨_, hide rfl⟩
    by_cases hlt : i < L
    · obtain ⟨x, hx⟩ : ∃ x, s[i]? = some x := ⟨_, List.getElem?_eq_getElem (by rw [unhide hL]; exact hlt)⟩
      obtain ⟨b, off, cap', e, _, _, hb, hcs⟩ := unhide HC i x hx
      cases e
      obtain ⟨x1, x2⟩ := unhide HI x (List.mem_of_getElem? hx)
      have hs := (unhide hK).2
      have k0 : wr.cell? ⟨b, off + i, none⟩ = some (.int .i64 x) := by
        have := (hs.cell (p := ⟨b, off + i * 1 + 0, none⟩) hb).trans (hcs 0 _ rfl)
        rw [Nat.mul_one, Nat.add_zero] at this
        exact this
      have hbr := Nat.lt_of_lt_of_le hb hs.size
      have i0 : (0 : Int) ≤ (i : Int) := by omega
      have i1 : (i : Int) < (L : Int) := by omega
      clear hs hcs hx
      by_cases hx0 : 0 ≤ x
      · have qx : decide (0 ≤ x) = true := decide_eq_true hx0
        obtain ⟨va, vb, vc, l, ys, h3, hF, h8, hl⟩ := (unhide hK).1
        have HW := hide (unhide hK).2
        obtain ⟨n, hn⟩ : ∃ n, Hid (l.length = n) := ⟨_, hide rfl⟩
        rw [unhide hn] at h3 hl
        have H3 := hide h3
        have HF := hide hF
        have H8 := hide h8
        have hx8 : 0 ≤ x % 256 ∧ x % 256 < 256 ∧ 0 ≤ x / 256 % 256 ∧ x / 256 % 256 < 256 := by omega
        have hc2 := fun W : World => conv2 (W.alloc (.cells #[.int .u8 (x % 256), .int .u8 (x / 256 % 256)] 5)) W.heap.size (x % 256) (x / 256 % 256) hx8 (heap_alloc_new W _)
        have hni : n ≤ 1048576 := by omega
        have HA := hide (fun O1 => kS.push_any (w := (wr.alloc O1).alloc (.cells #[.string ⟨#[UInt8.ofNat (x % 256).toNat, UInt8.ofNat (x / 256 % 256).toNat]⟩] 9)) ((unhide H3).keep (Below.alloc2 wr O1 (.cells #[.string ⟨#[UInt8.ofNat (x % 256).toNat, UInt8.ofNat (x / 256 % 256).toNat]⟩] 9))).a (rx_blk zS (heap_alloc_new _ _) [(x % 256, x / 256 % 256)] rfl 1 rfl (by unfold maxLen; omega)) (oneS _) (by omega))
        simp only [World.size_alloc] at HA
        have HX8 := hide hx8
        clear h3 hF h8 hx8 hK
        go_wp2_with fail
        refine (unhide HA _).mono ?_
        rintro e w5 ⟨rfl, va', hsk, hst⟩
        obtain ⟨h5, hb5⟩ := ((unhide H3).keep (Below.alloc2 wr _ _)).turnA hsk hst
        have H5 := hide h5
        have HB5 : Hid (Below pa wr w5) := ((Below.alloc2 wr _ _).mono (unhide H3).sz).trans hb5
        clear hsk hst h5 hb5 HA hc2
        have HBp := hide (kV.push_any (w := w5.alloc (.cells #[.int .i64 (x % 256), .int .i64 (x / 256 % 256)] 41)) ((unhide H5).keep ((Below.refl _ w5).alloc (Nat.le_refl _) (.cells #[.int .i64 (x % 256), .int .i64 (x / 256 % 256)] 41))).b (rx_blk zI (heap_alloc_new _ _) [(x % 256, x / 256 % 256)] rfl 1 rfl (by unfold maxLen; omega)) (oneI _) (by omega))
        have t1 : x.tmod 256 = x % 256 := Int.tmod_eq_emod_of_nonneg hx0
        have t2 : x.tdiv 256 = x / 256 := Int.tdiv_eq_ediv_of_nonneg hx0
        have t3 : (x / 256).tmod 256 = x / 256 % 256 := Int.tmod_eq_emod_of_nonneg (by omega)
        have ww1 : IntKind.i64.wrap (x % 256) = x % 256 := by go_arith
        have ww2 : IntKind.i64.wrap (x / 256) = x / 256 := by go_arith
        have ww3 : IntKind.i64.wrap (x / 256 % 256) = x / 256 % 256 := by go_arith
        go_wp2_with fail
        refine (unhide HBp).mono ?_
        rintro e w6 ⟨rfl, vb', hsk, hst⟩
        obtain ⟨h6, hb6⟩ := ((unhide H5).keep ((Below.refl _ w5).alloc (Nat.le_refl _) _)).turnB hsk hst
        have H6 := hide h6
        have HB6 : Hid (Below pa wr w6) := ((unhide HB5).trans (((Below.refl pa w5).alloc (unhide H5).sz _))).trans hb6
        clear hsk hst h6 hb6 HBp
        have HIN := hide (fun (V : World) (q : Nat) (h : V.heap[q]? = some (.cells #[.int .i64 x] 2)) => ints_blk h [x] rfl 1 rfl (by omega))
        go_wp2_with fail
        refine (unhide HIN _ _ (heap_alloc_new _ _)).mono ?_
        rintro e w7 ⟨sa, sc, rfl, hg7⟩
        have hb7 : Below w6.heap.size w6 w7 := ((Below.refl _ w6).alloc (Nat.le_refl _) _).trans (hg7.2.1.mono (by simp))
        have H7 := hide ((unhide H6).keep hb7)
        have HB7 : Hid (Below pa wr w7) := (unhide HB6).trans (hb7.mono (unhide H6).sz)
        have HCp := hide (kF.push_any (w := w7.alloc (.cells #[.int .i64 (x % 256), .int .i64 (x / 256 % 256), .slice sa 1 sc] 30)) ((unhide H7).keep ((Below.refl _ w7).alloc (Nat.le_refl _) (.cells #[.int .i64 (x % 256), .int .i64 (x / 256 % 256), .slice sa 1 sc] 30))).c (rx_blk zM (heap_alloc_new _ _) [⟨x % 256, x / 256 % 256, .slice sa 1 sc⟩] rfl 1 rfl (by unfold maxLen; omega)) (by intro u hu; rw [flt_one] at hu; simp only [enM, List.mem_cons, List.not_mem_nil, or_false] at hu; rcases hu with rfl | rfl | rfl <;> rfl) (by omega))
        clear hg7 hb7 HIN
        go_wp2_with fail
        refine (unhide HCp).mono ?_
        rintro e w8 ⟨rfl, vc', hsk, hst⟩
        obtain ⟨h8', hb8⟩ := ((unhide H7).keep ((Below.refl _ w7).alloc (Nat.le_refl _) _)).turnC hsk hst
        have HN : Hid (KJ pa w8 pa pb pc (i + 1) ∧ Below w.heap.size w w8) := by
          have hpa' := unhide hpa
          refine ⟨⟨va', vb', vc', l ++ [(x % 256, x / 256 % 256)], ys ++ [⟨x % 256, x / 256 % 256, .slice sa 1 sc⟩], ?_, (unhide HF).push (x % 256, x / 256 % 256) sa sc, fun p hp => ?_, ?_⟩, ?_⟩
          · rw [flt_append, flt_append, flt_append, List.length_append, List.length_singleton, unhide hn]
            exact h8'
          · rcases List.mem_append.1 hp with q | q
            · exact unhide H8 p q
            · rw [List.mem_singleton] at q; subst q; exact unhide HX8
          · rw [List.length_append, List.length_singleton, unhide hn]; omega
          · have h9 : Below pa wr w8 := ((unhide HB7).trans ((Below.refl pa w7).alloc (unhide H7).sz _)).trans hb8
            rw [hpa']
            rw [hpa'] at HW
            exact (unhide HW).trans (h9.mono (Nat.le_refl _))
        clear hsk hst h8' hb8 HCp t1 t2 t3 ww1 ww2 ww3
        go_wp2_with fail
        go_roundg (gk - 1)
        case measure => have := unhide hi; omega
        case rel => exact ⟨i + 1, by have := unhide hi; unfold Hid; omega, by go_num, unhide HN⟩
      · have qx : decide (0 ≤ x) = false := decide_eq_false hx0
        obtain ⟨Y, hY⟩ : ∃ Y, Y = wr := ⟨_, rfl⟩
        subst hY
        obtain ⟨va, vb, vc, l, ys, h3, hF, h8, hl⟩ := (unhide hK).1
        have HW := hide (unhide hK).2
        obtain ⟨n, hn⟩ : ∃ n, Hid (l.length = n) := ⟨_, hide rfl⟩
        rw [unhide hn] at h3 hl
        have H3 := hide h3
        have HF := hide hF
        have H8 := hide h8
        have HPK := hide (pick4_any Y x (by omega) x1)
        have HKJ := hide (unhide hK).1
        have hni : n ≤ 1048576 := by omega
        clear h3 hF h8 hK
        go_wp2_with fail
        refine (unhide HPK).mono ?_
        rintro e w5 ⟨⟨r, hr4, rfl⟩, ew⟩
        obtain rfl := ew.symm
        clear HPK
        have hbe := bool_neqK
        by_cases hrn : r ≤ n
        · as_aux_lemma =>
          have P1 := hide (kS.pop_any (unhide H3).a hrn (by omega))
          go_wp2_with fail
          refine (unhide P1).mono ?_
          rintro e w6 ⟨ua, va', rfl, hx6, hsk, hst, _⟩
          obtain ⟨h6, hb6⟩ := (unhide H3).turnA hsk hst
          have H6 := hide h6
          have HB6 := hide hb6
          have HX6 := hide hx6
          have HZ6 := hide hst.fr.size
          obtain ⟨ua1, ua2, eua, hua⟩ : ∃ a c, ua = .slice a r c ∧ r ≤ c := by obtain ⟨_, a, c, e, h, _⟩ := hx6.rx; exact ⟨a, c, e, h⟩
          subst eua
          clear hx6 hsk hst h6 hb6 P1
          have P2 := hide (kV.pop_any (unhide H6).b hrn (by omega))
          go_wp2_with fail
          refine (unhide P2).mono ?_
          rintro e w7 ⟨ub, vb', rfl, hx7, hsk, hst, _⟩
          obtain ⟨h7, hb7⟩ := (unhide H6).turnB hsk hst
          have H7 := hide h7
          have HX6b := hide ((unhide HX6).fr hst.fr (fun k hk hlt e => by
            rcases e with e | e
            · have h1 := (unhide H3).b.lt; omega
            · have h1 := (unhide H3).b.row.lt k e; omega))
          have HB7 := hide ((unhide HB6).trans hb7)
          have HX7 := hide hx7
          have HZ7 := hide hst.fr.size
          obtain ⟨ub1, ub2, eub, hub⟩ : ∃ a c, ub = .slice a r c ∧ r ≤ c := by obtain ⟨_, a, c, e, h, _⟩ := hx7.rx; exact ⟨a, c, e, h⟩
          subst eub
          clear hx7 hsk hst h7 hb7 P2
          have P3 := hide (kF.pop_any (unhide H7).c hrn (by omega))
          go_wp2_with fail
          refine (unhide P3).mono ?_
          rintro e w8 ⟨uc, vc', rfl, hx8, hsk, hst, _⟩
          obtain ⟨h8', hb8⟩ := (unhide H7).turnC hsk hst
          obtain ⟨uc1, uc2, euc, huc⟩ : ∃ a c, uc = .slice a r c ∧ r ≤ c := by obtain ⟨_, a, c, e, h, _⟩ := hx8.rx; exact ⟨a, c, e, h⟩
          subst euc
          have hS3 : ∀ k, Y.heap.size ≤ k → k < w7.heap.size → ¬ (k = pc ∨ vc.ownBlock = some k) := fun k hk hlt e => by
            rcases e with e | e
            · have h1 := (unhide H3).c.lt; omega
            · have h1 := (unhide H3).c.row.lt k e; omega
          have HRA := hide (((unhide HX6b).fr hst.fr hS3).rx)
          have HRB := hide (((unhide HX7).fr hst.fr (fun k hk => hS3 k (Nat.le_trans (unhide HZ6) hk))).rx)
          have HRC := hide hx8.rx
          rw [flt_drop zS] at HRA
          rw [flt_drop zI] at HRB
          rw [flt_drop zM] at HRC
          have HDl : Hid ((l.drop (n - r)).length = r) := by unfold Hid; rw [List.length_drop, unhide hn]; omega
          have HEl : Hid ((ys.drop (n - r)).length = r) := by unfold Hid; rw [List.length_drop, (unhide HF).1, unhide hn]; omega
          have HN : Hid (KJ pa w8 pa pb pc (i + 1) ∧ Below w.heap.size w w8) := by
            refine ⟨⟨va', vb', vc', l.take (n - r), ys.take (n - r), ?_, (unhide HF).take _, fun p hp => unhide H8 p (List.mem_of_mem_take hp), by rw [List.length_take]; omega⟩, ?_⟩
            · have hlt : (l.take (n - r)).length = n - r := by rw [List.length_take, unhide hn]; omega
              rw [hlt, ← flt_take zS, ← flt_take zI, ← flt_take zM]
              exact h8'
            · have hpa' := unhide hpa
              have h9 : Below pa Y w8 := (unhide HB7).trans hb8
              rw [hpa']
              rw [hpa'] at HW
              exact (unhide HW).trans h9
          clear hx8 hsk hst h8' hb8 P3 hS3
          have hrr : ((r : Int) == (r : Int)) = true := by simp
          have hrr2 : ((r : Int) != (r : Int)) = false := by simp
          go_wp2_with fail
          go_loopg [15] r (fun g t15 wq => ∃ j : Nat, Hid (j + g = r) ∧ t15 = .int .i64 (j : Int) ∧ Hid (Below w8.heap.size w8 wq))
          case atStart => exact ⟨0, by unfold Hid; omega, rfl, Below.refl _ _⟩
          case round =>
            obtain ⟨j, hj, rfl, hB⟩ := hrel
            by_cases hjr : j < r
            · obtain ⟨p, hp⟩ : ∃ p, (l.drop (n - r))[j]? = some p := ⟨_, List.getElem?_eq_getElem (by rw [unhide HDl]; exact hjr)⟩
              obtain ⟨y, hy⟩ : ∃ y, (ys.drop (n - r))[j]? = some y := ⟨_, List.getElem?_eq_getElem (by rw [unhide HEl]; exact hjr)⟩
              obtain ⟨b1, o1, c1, e1, _, _, lb1, hc1⟩ := Rx.elem zS (by have := unhide HRA; rw [unhide HDl]; exact this) hp
              obtain ⟨b2, o2, c2, e2, _, _, lb2, hc2⟩ := Rx.elem zI (by have := unhide HRB; rw [unhide HDl]; exact this) hp
              obtain ⟨b3, o3, c3, e3, _, _, lb3, hc3⟩ := Rx.elem zM (by have := unhide HRC; rw [unhide HEl]; exact this) hy
              rw [unhide HDl] at e1 e2
              rw [unhide HEl] at e3
              cases e1; cases e2; cases e3
              obtain ⟨f1, f2, sa, sc, f3⟩ := (unhide HF).2 (n - r + j) p y (by rw [List.getElem?_drop] at hp; exact hp) (by rw [List.getElem?_drop] at hy; exact hy)
              obtain ⟨g1, g2, g3, g4⟩ := unhide H8 p (List.mem_of_mem_drop (List.mem_of_getElem? hp))
              have bw := unhide hB
              have k1 : wr.cell? ⟨b1, o1 + j, none⟩ = some (.string ⟨#[UInt8.ofNat p.1.toNat, UInt8.ofNat p.2.toNat]⟩) := by
                have := (bw.cell (p := ⟨b1, o1 + j * 1 + 0, none⟩) lb1).trans (hc1 0 _ rfl)
                rw [Nat.mul_one, Nat.add_zero] at this
                exact this
              have k2 : wr.cell? ⟨b2, o2 + j * 2, none⟩ = some (.int .i64 p.1) := (bw.cell (p := ⟨b2, _, none⟩) lb2).trans (hc2 0 _ rfl)
              have k3 : wr.cell? ⟨b2, o2 + j * 2 + 1, none⟩ = some (.int .i64 p.2) := (bw.cell (p := ⟨b2, _, none⟩) lb2).trans (hc2 1 _ rfl)
              have k4 : wr.cell? ⟨b3, o3 + j * 3, none⟩ = some (.int .i64 p.1) := by rw [← f1]; exact (bw.cell (p := ⟨b3, _, none⟩) lb3).trans (hc3 0 _ rfl)
              have k5 : wr.cell? ⟨b3, o3 + j * 3 + 1, none⟩ = some (.int .i64 p.2) := by rw [← f2]; exact (bw.cell (p := ⟨b3, _, none⟩) lb3).trans (hc3 1 _ rfl)
              have k6 : wr.cell? ⟨b3, o3 + j * 3 + 2, none⟩ = some (.slice sa 1 sc) := by rw [← f3]; exact (bw.cell (p := ⟨b3, _, none⟩) lb3).trans (hc3 2 _ rfl)
              have q1 := Nat.lt_of_lt_of_le lb1 bw.size
              have q2 := Nat.lt_of_lt_of_le lb2 bw.size
              have q3 := Nat.lt_of_lt_of_le lb3 bw.size
              have i0' : (0 : Int) ≤ (j : Int) := by omega
              have i1' : (j : Int) < (r : Int) := by omega
              have em1 : p.1 % 256 = p.1 := Int.emod_eq_of_lt g1 g2
              have em2 : p.2 % 256 = p.2 := Int.emod_eq_of_lt g3 g4
              have hcv := conv2 ((wr.alloc (.cells #[.int .u8 p.1, .int .u8 p.2] 5)).drew) wr.heap.size p.1 p.2 ⟨g1, g2, g3, g4⟩ (heap_alloc_new wr _)
              have eu1 : IntKind.u8.wrap p.1 = p.1 := by rw [IntKind.wrap_u8]; omega
              have eu2 : IntKind.u8.wrap p.2 = p.2 := by rw [IntKind.wrap_u8]; omega
              obtain ⟨P1, hP1⟩ : ∃ v, Hid (p.1 = v) := ⟨_, hide rfl⟩
              obtain ⟨P2, hP2⟩ : ∃ v, Hid (p.2 = v) := ⟨_, hide rfl⟩
              rw [unhide hP1, unhide hP2] at hcv k1
              rw [unhide hP1] at k2 k4 em1 eu1
              rw [unhide hP2] at k3 k5 em2 eu2
              obtain ⟨T, hT⟩ : ∃ T, Hid ((⟨#[UInt8.ofNat P1.toNat, UInt8.ofNat P2.toNat]⟩ : ByteArray) = T) := ⟨_, hide rfl⟩
              rw [unhide hT] at hcv k1
              have HBA : Hid (∀ O, Below w8.heap.size w8 ((wr.alloc O).drew)) := fun O => below_drw ((unhide hB).alloc (unhide hB).size O)
              have bw2 := hide bw
              clear hc1 hc2 hc3 f1 f2 f3 g1 g2 g3 g4 hp hy bw lb1 lb2 lb3 hT
              go_wp2_with fail
              have HSA : Hid (∀ O : Obj, ((wr.alloc O).drew).cell? ⟨b1, o1 + j, none⟩ = some (.string T) ∧ ((wr.alloc O).drew).cell? ⟨b2, o2 + j * 2, none⟩ = some (.int .i64 P1) ∧ ((wr.alloc O).drew).cell? ⟨b2, o2 + j * 2 + 1, none⟩ = some (.int .i64 P2) ∧ ((wr.alloc O).drew).cell? ⟨b3, o3 + j * 3, none⟩ = some (.int .i64 P1) ∧ ((wr.alloc O).drew).cell? ⟨b3, o3 + j * 3 + 1, none⟩ = some (.int .i64 P2) ∧ ((wr.alloc O).drew).cell? ⟨b3, o3 + j * 3 + 2, none⟩ = some (.slice sa 1 sc)) := (have a1 := hide k1; have a2 := hide k2; have a3 := hide k3; have a4 := hide k4; have a5 := hide k5; have a6 := hide k6; fun O => (have fq : Fr (fun _ => False) wr ((wr.alloc O).drew) := ((Fr.refl _ wr).alloc O).drew; ⟨(fq.cell (a := ⟨b1, _, none⟩) q1 (fun e => e)).trans (unhide a1), (fq.cell (a := ⟨b2, _, none⟩) q2 (fun e => e)).trans (unhide a2), (fq.cell (a := ⟨b2, _, none⟩) q2 (fun e => e)).trans (unhide a3), (fq.cell (a := ⟨b3, _, none⟩) q3 (fun e => e)).trans (unhide a4), (fq.cell (a := ⟨b3, _, none⟩) q3 (fun e => e)).trans (unhide a5), (fq.cell (a := ⟨b3, _, none⟩) q3 (fun e => e)).trans (unhide a6)⟩))
              refine wp_region_held_drew (S := (fun w' => w'.cell? ⟨b2, o2 + j * 2, none⟩ = some (.int .i64 P1) ∧ w'.cell? ⟨b2, o2 + j * 2 + 1, none⟩ = some (.int .i64 P2))) (by kernel_rfl) (⟨k2, k3⟩) (fun hHeld => ?_)
              refine wpAnyH_take (i := 0) (oi := _) (v := .slice (some ⟨b2, o2, none⟩) r ub2) rfl (by kernel_rfl) (by kernel_rfl) (by kernel_rfl) (fun _ _ _ h => h) (Or.inl ⟨by rfl, (by intro w hSw; go_simp)⟩) (by assumption) ?_
              refine wpAnyH_take (i := 1) (oi := _) (v := .int .i64 (j : Int)) rfl (by kernel_rfl) (by kernel_rfl) (by kernel_rfl) (fun _ _ _ h => h) (Or.inl ⟨by rfl, (by intro w hSw; go_simp)⟩) (by assumption) ?_
              refine wpAnyH_take (i := 2) (oi := _) (v := .pointer (some ⟨b2, o2 + j * 2, none⟩)) rfl (by kernel_rfl) (by kernel_rfl) (by kernel_rfl) (fun _ _ _ h => h) (Or.inl ⟨by rfl, (by intro w hSw; go_simp)⟩) (by assumption) ?_
              go_simp
              refine wpAnyH_take (i := 3) (oi := _) (v := .pointer (some ⟨b2, o2 + j * 2, none⟩)) rfl (by kernel_rfl) (by kernel_rfl) (by kernel_rfl) (fun _ _ _ h => h) (Or.inl ⟨by rfl, (by intro w hSw; go_simp)⟩) (by assumption) ?_
              go_simp
              refine wpAnyH_take (i := 4) (oi := _) (v := .int .i64 P1) rfl (by kernel_rfl) (by kernel_rfl) (by kernel_rfl) (fun _ _ _ h => h) (Or.inl ⟨by rfl, (by intro w hSw; go_simp)⟩) (by assumption) ?_
              go_simp
              refine wpAnyH_take (i := 5) (oi := _) (v := .int .u8 P1) rfl (by kernel_rfl) (by kernel_rfl) (by kernel_rfl) (fun _ _ _ h => h) (Or.inl ⟨by rfl, (by intro w hSw; go_simp)⟩) (by assumption) ?_
              go_simp
              refine wpAnyH_take (i := 6) (oi := _) (v := .slice (some ⟨b2, o2, none⟩) r ub2) rfl (by kernel_rfl) (by kernel_rfl) (by kernel_rfl) (fun _ _ _ h => h) (Or.inl ⟨by rfl, (by intro w hSw; go_simp)⟩) (by assumption) ?_
              refine wpAnyH_take (i := 7) (oi := _) (v := .int .i64 (j : Int)) rfl (by kernel_rfl) (by kernel_rfl) (by kernel_rfl) (fun _ _ _ h => h) (Or.inl ⟨by rfl, (by intro w hSw; go_simp)⟩) (by assumption) ?_
              refine wpAnyH_take (i := 8) (oi := _) (v := .pointer (some ⟨b2, o2 + j * 2, none⟩)) rfl (by kernel_rfl) (by kernel_rfl) (by kernel_rfl) (fun _ _ _ h => h) (Or.inl ⟨by rfl, (by intro w hSw; go_simp)⟩) (by assumption) ?_
              go_simp
              refine wpAnyH_take (i := 9) (oi := _) (v := .pointer (some ⟨b2, o2 + j * 2 + 1, none⟩)) rfl (by kernel_rfl) (by kernel_rfl) (by kernel_rfl) (fun _ _ _ h => h) (Or.inl ⟨by rfl, (by intro w hSw; go_simp)⟩) (by assumption) ?_
              go_simp
              refine wpAnyH_take (i := 10) (oi := _) (v := .int .i64 P2) rfl (by kernel_rfl) (by kernel_rfl) (by kernel_rfl) (fun _ _ _ h => h) (Or.inl ⟨by rfl, (by intro w hSw; go_simp)⟩) (by assumption) ?_
              go_simp
              refine wpAnyH_take (i := 11) (oi := _) (v := .int .u8 P2) rfl (by kernel_rfl) (by kernel_rfl) (by kernel_rfl) (fun _ _ _ h => h) (Or.inl ⟨by rfl, (by intro w hSw; go_simp)⟩) (by assumption) ?_
              go_simp
              refine wpAnyH_ready (rs := [12]) (by kernel_rfl) (by simp) ?_
              refine AllReadyH.cons (o := _) rfl (fun K hK => ?_) AllReadyH.nil
              go_simp
              refine hK.out _ _ (⟨(unhide HSA _).2.1, (unhide HSA _).2.2.1⟩) (fun hHeld12x => ?_)
              clear hK K
              go_simp
              refine wpAnyH_ready (rs := [13]) (by kernel_rfl) (by simp) ?_
              refine AllReadyH.cons (o := _) rfl (fun K hK => ?_) AllReadyH.nil
              go_simp
              refine hK.out _ _ (⟨(unhide HSA _).2.1, (unhide HSA _).2.2.1⟩) (fun hHeld13x => ?_)
              clear hK K
              refine wpAnyH_take (i := 14) (oi := _) (v := .string T) rfl (by kernel_rfl) (by kernel_rfl) (by kernel_rfl) (fun _ _ _ h => h) (Or.inl ⟨by rfl, (by intro w hSw; go_simp)⟩) (by assumption) ?_
              go_simp
              refine wpAnyH_done (by kernel_rfl) ?_ _
              obtain ⟨m1, m2, m3, m4, m5, m6⟩ := unhide HSA (.cells #[.int .u8 P1, .int .u8 P2] 5)
              have HV := hide (unhide HBA (.cells #[.int .u8 P1, .int .u8 P2] 5))
              obtain ⟨V, hV⟩ : ∃ V, Hid ((wr.alloc (.cells #[.int .u8 P1, .int .u8 P2] 5)).drew = V) := ⟨_, hide rfl⟩
              rw [unhide hV] at m1 m2 m3 m4 m5 m6 HV ⊢
              clear hV HSA HBA k1 k2 k3 k4 k5 k6 q1 q2 q3 hcv
              have v1 := World.block_lt_of_cell? _ _ m1
              have v2 := World.block_lt_of_cell? _ _ m2
              have v3 := World.block_lt_of_cell? _ _ m4
              go_wp2_with fail
              go_quiet (fail)
              have HB3 : Hid (Below w8.heap.size w8 (V.drewN nq)) := (unhide HV).trans ((Fr.drewN (S := fun _ => False) nq).below (unhide HV).size (fun _ _ e => e))
              go_wp2_with fail
              go_roundg (gk - 1)
              case measure => have := unhide hj; omega
              case rel => exact ⟨j + 1, by have := unhide hj; unfold Hid; omega, by go_num, HB3⟩
            · have hjr2 : j = r := by have := unhide hj; omega
              subst hjr2
              have HN2 : Hid (KJ pa wr pa pb pc (i + 1) ∧ Below w.heap.size w wr) := by
                obtain ⟨⟨va, vb, vc, l, ys, h3, hF, h8, hl⟩, hw⟩ := unhide HN
                exact ⟨⟨va, vb, vc, l, ys, h3.keep (unhide hB), hF, h8, hl⟩, hw.trans ((unhide hB).mono hw.size)⟩
              go_wp2_with fail
              go_roundg (G0 - 1)
              case measure => have h1 := unhide hG0; have h2 := unhide hi; omega
              case rel => exact ⟨i + 1, by have h1 := unhide hG0; have h2 := unhide hi; unfold Hid; omega, by go_num, unhide HN2⟩
        · as_aux_lemma =>
          have P1 := hide (kS.pop_no (unhide H3).a (r : Int) (.inr (by omega)))
          have P2 := hide (kV.pop_no (unhide H3).b (r : Int) (.inr (by omega)))
          have P3 := hide (kF.pop_no (unhide H3).c (r : Int) (.inr (by omega)))
          have hr0 : (r == 0) = false := by simp; omega
          have hr1 : ((r : Int) == 0) = false := by simp; omega
          have hr2 : ((0 : Int) == (r : Int)) = false := by simp; omega
          have hr3 : ((0 : Nat) == r) = false := by simp; omega
          go_wp2_with fail
          refine (unhide P1).mono ?_
          rintro e w6 ⟨rfl, ew⟩
          obtain rfl := ew.symm
          go_wp2_with fail
          refine (unhide P2).mono ?_
          rintro e w7 ⟨rfl, ew⟩
          obtain rfl := ew.symm
          go_wp2_with fail
          refine (unhide P3).mono ?_
          rintro e w8 ⟨rfl, ew⟩
          obtain rfl := ew.symm
          clear P1 P2 P3
          have HN : Hid (KJ pa Y pa pb pc (i + 1) ∧ Below w.heap.size w Y) := by
            obtain ⟨va, vb, vc, l, ys, h3, hF, h8, hl⟩ := unhide HKJ
            exact ⟨⟨va, vb, vc, l, ys, h3, hF, h8, by omega⟩, unhide HW⟩
          go_wp2_with fail
          go_loopg [15] 0 (fun g t15 wq => t15 = .int .i64 0 ∧ wq = Y)
          case atStart => exact ⟨rfl, rfl⟩
          case round =>
            obtain ⟨rfl, rfl⟩ := hrel
            go_wp2_with fail
            go_roundg (G0 - 1)
            case measure => have h1 := unhide hG0; have h2 := unhide hi; omega
            case rel => exact ⟨i + 1, by have h1 := unhide hG0; have h2 := unhide hi; unfold Hid; omega, by go_num, unhide HN⟩
    · have hiL : i = L := by have := unhide hi; omega
      obtain ⟨va, vb, vc, l, ys, h3, hF, h8, hl⟩ := (unhide hK).1
      obtain ⟨Y, hY⟩ : ∃ Y, Y = wr := ⟨_, rfl⟩
      subst hY
      obtain ⟨n, hn⟩ : ∃ n, Hid (l.length = n) := ⟨_, hide rfl⟩
      rw [unhide hn] at h3
      have P1 := hide (kS.len_any h3.a)
      have P2 := hide (kV.len_any h3.b)
      have P3 := hide (kF.len_any h3.c)
      have HE := hide (unhide hK).2
      have hrr : ((n : Int) == (n : Int)) = true := by simp
      subst hiL
      clear h3 hF h8 hK
      go_wp2_with fail
      refine (unhide P1).mono ?_
      rintro e w5 ⟨rfl, ew⟩
      obtain rfl := ew.symm
      go_wp2_with fail
      refine (unhide P2).mono ?_
      rintro e w5 ⟨rfl, ew⟩
      obtain rfl := ew.symm
      go_wp2_with fail
      refine (unhide P1).mono ?_
      rintro e w5 ⟨rfl, ew⟩
      obtain rfl := ew.symm
      go_wp2_with fail
      refine (unhide P3).mono ?_
      rintro e w5 ⟨rfl, ew⟩
      obtain rfl := ew.symm
      go_wp2_with fail
      go_ret
      exact ⟨rfl, unhide HE⟩
end Go.Proofs.Ytfcgpafjhifogaa
