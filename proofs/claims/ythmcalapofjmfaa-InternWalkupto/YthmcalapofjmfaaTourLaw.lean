/-
  InternWalk.
-/
import Derived.Test.YthmcalapofjmfaaTourI
namespace Go.Proofs.Ythmcalapofjmfaa
open Go.RowKit Go.Shelf
set_option linter.unusedVariables false
attribute [local go_sem] Oper.semAt_some

theorem fn_not_nil (ab : Nat) (W : World) : (binOp .eql 49 (.func (.func 37) #[] #[.pointer (some ⟨ab, 0, none⟩)]) .nilFunc).run Try.prog W = .ok (.bool false) W := by kernel_rfl
theorem Stay.trans {D : Nat} {X Y Z : World} (h : Stay D X Y) (k : Stay D Y Z) : Stay D X Z := ⟨k.1.trans h.1, k.2.trans h.2⟩
/-- Behind a region, where it comes to its end. -/
def onN (R : Act → World → Prop) : Exit → Act → World → Prop
  | .normal, a, w => R a w
  | _, _, _ => False
theorem wpIn_cut {F : Fence} {n : Nat} {P : Program} {c : Code} {Q : Exit → Act → World → Prop} {a : Act} {w : World} {A : Act} {R : World → Prop} (h : c.wpIn F n P (onN (fun a' w' => a' = A ∧ R w')) a w) (hq : ∀ w', R w' → Q .normal A w') : c.wpIn F n P Q a w :=
  wpIn_mono h (fun e a' w' k => by
    cases e with
    | normal => obtain ⟨rfl, r⟩ := k; exact hq w' r
    | _ => exact k.elim)
theorem wpIn_cutB {F : Fence} {n : Nat} {P : Program} {c : Code} {Q : Exit → Act → World → Prop} {a : Act} {w : World} {A : Act} {R : World → Prop} {i : Nat} (h : c.wpIn F n P (fun e a' w' => (e = .normal ∨ e = .exit i) ∧ a' = A ∧ R w') a w) (hq : ∀ w', R w' → Q .normal A w') : c.wpIn F n P (Exit.inBlock i Q) a w :=
  wpIn_mono h (fun e a' w' k => by
    obtain ⟨rfl | rfl, rfl, r⟩ := k
    · exact hq w' r
    · simp only [Exit.inBlock, if_true]; exact hq w' r)
/-- The walks' marks. -/
def MK (w : World) (tm : Nat) (dd : Nat × Obj) (ds : List Deferred) (X : World) : Prop :=
  (tm = 0 ∧ ds = []) ∨ (tm = 1 ∧ ds = [⟨.collected dd.1, #[]⟩] ∧ dd.2 = .deferred (some []) ∧ w.heap.size + 1 < dd.1) ∨
    (tm = 2 ∧ ∃ D, ds = [⟨.collected D, #[]⟩, ⟨.collected dd.1, #[]⟩] ∧ dd.2 = .deferred (some []) ∧ w.heap.size + 1 < dd.1 ∧ D ≠ dd.1 ∧ w.heap.size + 1 < D ∧ X.heap[D]? = some (.deferred (some [])))
/-- Ahead of a walk. -/
def TI (w : World) (tv : List Value) (q ab p : Nat) (tm : Nat) (a : Act) (X : World) : Prop :=
  ∃ (dd : Nat × Obj) (R : List ByteArray) (vr : Value) (ds : List Deferred) (x : Nat → Value), a = { tmps := #[x 0, .pointer (some ⟨w.heap.size, 0, none⟩), .pointer (some ⟨w.heap.size + 1, 0, none⟩), .pointer (some ⟨q, 0, none⟩), vr, x 5, .func (.func 37) #[] #[.pointer (some ⟨ab, 0, none⟩)], x 7, .int .i64 (tm : Int), x 9, x 10, x 11, x 12, x 13, x 14, x 15, x 16, x 17, x 18, x 19, x 20, x 21, x 22, x 23, x 24, x 25, x 26, x 27, x 28, x 29, x 30, x 31, x 32, x 33, x 34, x 35, x 36, x 37, x 38, x 39, x 40, x 41, x 42, x 43, x 44, x 45, x 46, x 47, x 48, x 49, x 50, x 51, x 52, x 53, x 54, x 55, x 56, x 57, x 58, x 59, x 60, x 61, x 62, x 63, x 64, x 65, x 66, x 67, x 68, x 69, x 70, x 71, x 72, x 73, x 74, x 75, x 76, x 77, x 78, x 79, x 80, x 81, x 82, x 83, x 84, x 85, x 86, x 87, x 88, x 89, x 90, x 91, x 92, x 93, x 94, x 95, x 96, x 97, x 98, x 99, x 100, x 101, x 102, x 103, x 104, x 105, x 106, x 107, x 108, x 109, x 110, x 111, x 112, x 113, x 114, x 115, x 116, x 117, x 118, x 119, x 120, x 121, x 122, x 123, x 124, x 125, x 126, x 127, x 128, x 129, x 130, x 131, x 132, x 133, x 134, x 135, x 136, x 137, x 138, x 139, x 140, x 141, x 142, x 143, x 144, x 145, x 146, x 147, x 148, x 149, x 150, x 151], defers := ds } ∧ Hid (TS w tv q ab dd p R R vr X ∧ R.length ≤ 2097152 + tm * 1048576 ∧ MK w tm dd ds X)
theorem TI.make {w : World} {tv : List Value} {q ab p tm : Nat} {tmv : Value} {X : World} {dd : Nat × Obj} {R : List ByteArray} {vr : Value} {ds : List Deferred} {x0 x5 x7 x9 x10 x11 x12 x13 x14 x15 x16 x17 x18 x19 x20 x21 x22 x23 x24 x25 x26 x27 x28 x29 x30 x31 x32 x33 x34 x35 x36 x37 x38 x39 x40 x41 x42 x43 x44 x45 x46 x47 x48 x49 x50 x51 x52 x53 x54 x55 x56 x57 x58 x59 x60 x61 x62 x63 x64 x65 x66 x67 x68 x69 x70 x71 x72 x73 x74 x75 x76 x77 x78 x79 x80 x81 x82 x83 x84 x85 x86 x87 x88 x89 x90 x91 x92 x93 x94 x95 x96 x97 x98 x99 x100 x101 x102 x103 x104 x105 x106 x107 x108 x109 x110 x111 x112 x113 x114 x115 x116 x117 x118 x119 x120 x121 x122 x123 x124 x125 x126 x127 x128 x129 x130 x131 x132 x133 x134 x135 x136 x137 x138 x139 x140 x141 x142 x143 x144 x145 x146 x147 x148 x149 x150 x151 : Value} (ht : tmv = .int .i64 (tm : Int)) (h : TS w tv q ab dd p R R vr X) (hl : R.length ≤ 2097152 + tm * 1048576) (hm : MK w tm dd ds X) :
    TI w tv q ab p tm { tmps := #[x0, .pointer (some ⟨w.heap.size, 0, none⟩), .pointer (some ⟨w.heap.size + 1, 0, none⟩), .pointer (some ⟨q, 0, none⟩), vr, x5, .func (.func 37) #[] #[.pointer (some ⟨ab, 0, none⟩)], x7, tmv, x9, x10, x11, x12, x13, x14, x15, x16, x17, x18, x19, x20, x21, x22, x23, x24, x25, x26, x27, x28, x29, x30, x31, x32, x33, x34, x35, x36, x37, x38, x39, x40, x41, x42, x43, x44, x45, x46, x47, x48, x49, x50, x51, x52, x53, x54, x55, x56, x57, x58, x59, x60, x61, x62, x63, x64, x65, x66, x67, x68, x69, x70, x71, x72, x73, x74, x75, x76, x77, x78, x79, x80, x81, x82, x83, x84, x85, x86, x87, x88, x89, x90, x91, x92, x93, x94, x95, x96, x97, x98, x99, x100, x101, x102, x103, x104, x105, x106, x107, x108, x109, x110, x111, x112, x113, x114, x115, x116, x117, x118, x119, x120, x121, x122, x123, x124, x125, x126, x127, x128, x129, x130, x131, x132, x133, x134, x135, x136, x137, x138, x139, x140, x141, x142, x143, x144, x145, x146, x147, x148, x149, x150, x151], defers := ds } X := by
  subst ht
  exact ⟨dd, R, vr, ds, fun i => [x0, undef, undef, undef, undef, x5, undef, x7, undef, x9, x10, x11, x12, x13, x14, x15, x16, x17, x18, x19, x20, x21, x22, x23, x24, x25, x26, x27, x28, x29, x30, x31, x32, x33, x34, x35, x36, x37, x38, x39, x40, x41, x42, x43, x44, x45, x46, x47, x48, x49, x50, x51, x52, x53, x54, x55, x56, x57, x58, x59, x60, x61, x62, x63, x64, x65, x66, x67, x68, x69, x70, x71, x72, x73, x74, x75, x76, x77, x78, x79, x80, x81, x82, x83, x84, x85, x86, x87, x88, x89, x90, x91, x92, x93, x94, x95, x96, x97, x98, x99, x100, x101, x102, x103, x104, x105, x106, x107, x108, x109, x110, x111, x112, x113, x114, x115, x116, x117, x118, x119, x120, x121, x122, x123, x124, x125, x126, x127, x128, x129, x130, x131, x132, x133, x134, x135, x136, x137, x138, x139, x140, x141, x142, x143, x144, x145, x146, x147, x148, x149, x150, x151].getD i undef, rfl, h, hl, hm⟩
theorem rounds_two {F : Fence} {n : Nat} {P : Program} {c : Code} {Q : Exit → Act → World → Prop} (I : Nat → Act → World → Prop) (h : ∀ k a w, k < 2 → I k a w → c.wpIn F n P (onN (I (k + 1))) a w) (he : ∀ a w, I 2 a w → c.wpIn F n P (Exit.then (fun _ _ => False) Q) a w) (a : Act) (w : World) (h0 : I 0 a w) : Code.roundsIn F n P c Q 3 a w := by
  have up : ∀ {K1 : Act → World → Prop} {J : Act → World → Prop} {a : Act} {w : World}, c.wpIn F n P (onN J) a w → (∀ a w, J a w → K1 a w) → c.wpIn F n P (Exit.then K1 Q) a w := fun h k => wpIn_mono h (fun e a' w' q => by
    cases e with
    | normal => exact k _ _ q
    | _ => exact q.elim)
  rw [roundsIn_succ]
  refine up (h 0 a w (by omega) h0) (fun a1 w1 h1 => ?_)
  rw [roundsIn_succ]
  refine up (h 1 a1 w1 (by omega) h1) (fun a2 w2 h2 => ?_)
  rw [roundsIn_succ]
  exact he a2 w2 h2
theorem mk_below {w X Y : World} {tm : Nat} {dd : Nat × Obj} {ds : List Deferred} (h : MK w tm dd ds X) (f : Below X.heap.size X Y) : MK w tm dd ds Y := by
  rcases h with h | h | ⟨h1, D, h2, h3, h4, h5, h6, h7⟩
  · exact .inl h
  · exact .inr (.inl h)
  · exact .inr (.inr ⟨h1, D, h2, h3, h4, h5, h6, (f.block D (blk_lt h7)).trans h7⟩)
theorem box5 (w : World) (a b c d e : Value) (t : TypeId) (o : Obj) : ∀ j v, [a, b, c, d, e][j]? = some v → ((w.alloc (.cells #[a, b, c, d, e] t)).alloc o).cell? ⟨w.heap.size, j, none⟩ = some v := fun j v hv => by
  have h1 := heap_alloc_new w (.cells #[a, b, c, d, e] t)
  have h3 := Below.heap_alloc (w.alloc (.cells #[a, b, c, d, e] t)) o w.heap.size (by simp)
  rw [h1] at h3
  simp only [World.cell?, h3]
  exact (by simpa using hv)

set_option maxRecDepth 100000 in
set_option maxHeartbeats 6400000 in
theorem walk_any {w : World} {vF vA vI : Value} {F : List ByteArray} {A I : List AcD} {stop other : Int} (hF : Rt w vF F) (hFs : ∀ i, i < F.length → (tx F i).size ≤ maxLen) (hA : Ra w vA A) (hI : Ra w vI I) (lF : F.length ≤ 1048576) (lA : A.length ≤ 1048576) (lI : I.length ≤ 1048576) :
    Calls Try.prog 4 #[.agg #[vF, vA, vI, .int .i64 stop, .int .i64 other]] w fun e w' => e = .returned (.bool true) ∧ Below w.heap.size w w' := by
  obtain ⟨n, hn⟩ : ∃ n : Nat, 8 ≤ n := ⟨8, Nat.le_refl _⟩
  refine (callsIn_wide (n := n)).1 ?_
  obtain ⟨aF, cF, rfl, fl1, fl2, hFc⟩ := hF
  obtain ⟨aA, cA, rfl, al1, hAc⟩ := hA
  have HI := hide hI
  obtain ⟨aI, cI, rfl, il1, hIc⟩ := hI
  have HF := hide hFc
  have HA := hide hAc
  have HIc := hide hIc
  have HFs := hide hFs
  obtain ⟨NF, hNF⟩ : ∃ N, Hid (F.length = N) := ⟨_, rfl⟩
  obtain ⟨NA, hNA⟩ : ∃ N, Hid (A.length = N) := ⟨_, rfl⟩
  obtain ⟨NI, hNI⟩ : ∃ N, Hid (I.length = N) := ⟨_, rfl⟩
  rw [unhide hNF] at lF ⊢
  rw [unhide hNA] at lA ⊢
  rw [unhide hNI] at lI HI ⊢
  clear hFc hAc hIc hFs fl1 fl2 al1 il1
  have hmx : Try.prog.follows .mixedOrders = true := by kernel_rfl
  refine callsIn_of_wp_marks Try.func4 rfl trivial ?_ rfl
  simp only [Try.ntmps4, List.size_toArray, List.length_cons, List.length_nil, Nat.reduceAdd, Nat.reduceSub, Array.replicate_succ, Array.replicate_zero, List.push_toArray, List.append_toArray, List.nil_append, List.cons_append]
  gi_wp2_with fail
  refine ⟨trivial, (fun q => by cases q), (callsIn_wide.2 (new_any _)).mono ?_⟩
  rintro e w1 ⟨rfl, i1, b1⟩
  obtain ⟨tv, etv⟩ : ∃ tv : List Value, tv = [.slice aF NF cF, .slice aA NA cA, .slice aI NI cI, .int .i64 stop, .int .i64 other] := ⟨_, rfl⟩
  obtain ⟨W0, eW0⟩ : ∃ W0, W0 = (w.alloc (.cells #[.slice aF NF cF, .slice aA NA cA, .slice aI NI cI, .int .i64 stop, .int .i64 other] 44)).alloc (.cells #[.bool false] 4) := ⟨_, rfl⟩
  have s0 : W0.heap.size = w.heap.size + 2 := by rw [eW0]; simp
  obtain ⟨dd, edd⟩ : ∃ dd : Nat × Obj, dd = (w.heap.size, .cells #[.slice aF NF cF, .slice aA NA cA, .slice aI NI cI, .int .i64 stop, .int .i64 other] 44) := ⟨_, rfl⟩
  rw [← eW0] at i1 b1 ⊢
  have hT : TS w tv w1.heap.size w1.heap.size dd (W0.heap.size + 1) [] [] (.slice none 0 0) (w1.alloc (.cells #[.pointer (some ⟨W0.heap.size + 1, 0, none⟩)] 23)) := by
    have hB0 : Below w.heap.size w W0 := by rw [eW0]; exact ((Below.refl _ _).alloc (Nat.le_refl _) _).alloc (by simp) _
    have hB1 : Below w1.heap.size w1 (w1.alloc (.cells #[.pointer (some ⟨W0.heap.size + 1, 0, none⟩)] 23)) := (Below.refl _ _).alloc (Nat.le_refl _) _
    have hs1 := b1.size
    have f1 : Fr (fun _ => False) W0 (w1.alloc (.cells #[.pointer (some ⟨W0.heap.size + 1, 0, none⟩)] 23)) := (Fr.of_below b1).alloc _
    refine ⟨(hB0.trans (b1.mono (by omega))).trans (hB1.mono (by omega)), ?_, ?_, Bx.new _ _ _, Bx.new _ _ _, ⟨none, 0, rfl, Nat.le_refl _, Nat.zero_le _, fun i hi => by simp at hi⟩, (by intro k hk; simp [Value.ownBlock] at hk), ?_, W0.heap.size, .slice none 0 0, i1.below hB1, ?_⟩
    · have := box5 w (.slice aF NF cF) (.slice aA NA cA) (.slice aI NI cI) (.int .i64 stop) (.int .i64 other) 44 (.cells #[.bool false] 4)
      rw [← eW0] at this
      rw [etv]
      exact tb_keep this f1 (fun e => e)
    · have := Bx.new (w.alloc (.cells #[.slice aF NF cF, .slice aA NA cA, .slice aI NI cI, .int .i64 stop, .int .i64 other] 44)) (.bool false) 4
      rw [← eW0, show (w.alloc (.cells #[.slice aF NF cF, .slice aA NA cA, .slice aI NI cI, .int .i64 stop, .int .i64 other] 44)).heap.size = w.heap.size + 1 from by simp] at this
      exact this.keep f1 (fun e => e)
    · rw [edd]
      refine (f1.block w.heap.size (by omega) (fun e => e)).trans ?_
      rw [eW0, Below.heap_alloc _ _ _ (by simp), heap_alloc_new]
    · have := i1.lt
      have hd : dd.1 = w.heap.size := by rw [edd]
      rintro x (q | q | q)
      · exact ⟨by omega, by omega, by omega, by simp [Value.ownBlock], by omega⟩
      · exact ⟨by omega, by omega, by omega, by simp [Value.ownBlock], by omega⟩
      · simp [Value.ownBlock] at q
  obtain ⟨p, ep⟩ : ∃ p, Hid (W0.heap.size + 1 = p) := ⟨_, rfl⟩
  obtain ⟨q, eq⟩ : ∃ q, Hid (w1.heap.size = q) := ⟨_, rfl⟩
  rw [unhide ep, unhide eq] at hT
  rw [unhide ep]
  have HT := hide hT
  have Hv := hide etv
  clear hT etv i1 b1 edd
  gi_wp2_with fail
  rw [unhide eq]
  gi_loopw [4, 5] (fun t4 t5 wr => ∃ j : Nat, Hid (j ≤ NF) ∧ t5 = .int .i64 (j : Int) ∧ Hid (TS w tv q q dd p (rowOf F j) (rowOf F j) t4 wr)) (fun t4 t5 _ => NF - (intOf t5).toNat)
  case atStart => exact ⟨0, Nat.zero_le _, rfl, by rw [← unhide eq]; exact unhide eq ▸ HT⟩
  case round =>
    obtain ⟨j, hj, rfl, HT1⟩ := hrel
    clear HT
    have c0 : wr.cell? ⟨w.heap.size, 0, none⟩ = some (.slice aF NF cF) := (unhide HT1).tb 0 _ (by rw [unhide Hv]; rfl)
    have cq : wr.cell? ⟨q, 0, none⟩ = some (.pointer (some ⟨p, 0, none⟩)) := (unhide HT1).xb.1
    have hws : w.heap.size < wr.heap.size := World.block_lt_of_cell? _ _ c0
    have i0 : (0 : Int) ≤ (j : Int) := by omega
    by_cases hlt : j < NF
    · obtain ⟨b, off, rfl, hb, hcl⟩ := unhide HF j (by rw [unhide hNF]; exact hlt)
      have c1 : wr.cell? ⟨b, off + j, none⟩ = some (.string (tx F j)) := ((unhide HT1).bel.cell (p := ⟨b, off + j, none⟩) hb).trans hcl
      have i1 : (j : Int) < (NF : Int) := by omega
      have hrl := hide (rowOf_length F j)
      have hsz := hide (unhide HFs j (by rw [unhide hNF]; exact hlt))
      have hstep : Hid (rowOf F (j + 1) = ins (rowOf F j) (tx F j)) := rfl
      obtain ⟨t, et⟩ : ∃ t, tx F j = t := ⟨_, rfl⟩
      rw [et] at c1 hsz hstep hcl
      have HC := hide hcl
      clear et hcl
      have HAd := hide (((unhide HT1).below (Below.refl _ wr).drew).add t (unhide hsz) (by have := unhide hrl; omega))
      gi_wp2_with fail
      apply wpIn_cut (R := TS w tv q q dd p (ins (rowOf F j) t) (rowOf F j) u4)
      case h =>
        first | gi_region_with_o (refine ⟨trivial, (fun q => by cases q), (callsIn_wide.2 (unhide HAd)).mono ?_⟩; rintro e w2 ⟨rfl, hT2⟩; have HT2 := hide hT2; clear hT2) | fail "region"
        all_goals exact ⟨rfl, unhide HT2⟩
      case hq =>
        intro w2 hT2
        have HR := hide (radd_any hT2.row t (by have := unhide hrl; omega))
        have c0 : w2.cell? ⟨w.heap.size, 0, none⟩ = some (.slice (some ⟨b, off, none⟩) NF cF) := hT2.tb 0 _ (by rw [unhide Hv]; rfl)
        have hws2 : w.heap.size < w2.heap.size := World.block_lt_of_cell? _ _ c0
        have c2 : w2.cell? ⟨b, off + j, none⟩ = some (.string t) := (hT2.bel.cell (p := ⟨b, off + j, none⟩) hb).trans (unhide HC)
        have HT2 := hide hT2
        clear hT2 HT1 HAd cq
        gi_wp2_with fail
        refine ⟨trivial, (fun q => by cases q), (callsIn_wide.2 (unhide HR)).mono ?_⟩
        rintro e w3 ⟨u, rfl, r1, r2, r3⟩
        have HT3 := hide ((unhide HT2).rowTo r1 r2 r3)
        clear HR r1 r2 r3 HT2
        gi_wp2_with fail
        go_roundw
        case rel => exact ⟨j + 1, hlt, by go_num, by rw [unhide hstep]; exact HT3⟩
        case measure => simp [intOf]; omega
    · have i1 : ¬ (j : Int) < (NF : Int) := by omega
      obtain ⟨R0, eR0⟩ : ∃ R0, Hid (rowOf F j = R0) := ⟨_, rfl⟩
      have hrl : R0.length ≤ 1048576 := by have := rowOf_length F j; rw [unhide eR0] at this; have := unhide hj; omega
      rw [unhide eR0] at HT1
      have HT2 := hide (unhide HT1).newAb
      obtain ⟨ra, rc, e4, _, _, _⟩ := (unhide HT1).row
      obtain ⟨L0, hL0⟩ : ∃ L0, Hid (R0.length = L0) := ⟨_, rfl⟩
      rw [unhide hL0] at e4 hrl
      subst e4
      gi_wp2_with fail
      refine ⟨trivial, (fun q => by cases q), (callsIn_wide.2 (all_any _ _)).mono ?_⟩
      rintro e w2 ⟨rfl, ew⟩
      rw [ew]
      clear ew w2 HT1
      obtain ⟨ab, eab⟩ : ∃ ab, ab = wr.heap.size := ⟨_, rfl⟩
      obtain ⟨W2, eW2⟩ : ∃ W2, W2 = wr.alloc (.cells #[.pointer (some ⟨p, 0, none⟩)] 23) := ⟨_, rfl⟩
      rw [← eab, ← eW2] at HT2
      rw [← eW2, ← eab]
      have HL := hide (unhide HT2).len
      rw [unhide hL0] at HL
      have cq : W2.cell? ⟨q, 0, none⟩ = some (.pointer (some ⟨p, 0, none⟩)) := (unhide HT2).xb.1
      have hnf := fn_not_nil ab W2
      clear c0 hws eW2 eab
      gi_wp2_with fail
      refine ⟨trivial, (fun q => by cases q), (callsIn_wide.2 (unhide HL)).mono ?_⟩
      rintro e w2 ⟨rfl, ew⟩
      rw [ew]
      clear ew w2 HL cq
      gi_wp2_with fail
      gi_loopw [4, 7] (fun t4 t7 wr => ∃ j : Nat, Hid (j ≤ NA) ∧ t7 = .int .i64 (j : Int) ∧ Hid (TS w tv q ab dd p (rwk R0 A j) (rwk R0 A j) t4 wr)) (fun t4 t7 _ => NA - (intOf t7).toNat)
      case atStart => exact ⟨0, Nat.zero_le _, rfl, HT2⟩
      case round =>
        obtain ⟨j, hj, rfl, HT1⟩ := hrel
        clear HT2
        have c0 : wr.cell? ⟨w.heap.size, 1, none⟩ = some (.slice aA NA cA) := (unhide HT1).tb 1 _ (by rw [unhide Hv]; rfl)
        have cq : wr.cell? ⟨q, 0, none⟩ = some (.pointer (some ⟨p, 0, none⟩)) := (unhide HT1).xb.1
        have hws : w.heap.size < wr.heap.size := World.block_lt_of_cell? _ _ c0
        have i0 : (0 : Int) ≤ (j : Int) := by omega
        have hlen : Hid ((rwk R0 A j).length ≤ 2097152) := by have := (rwk_length R0 A j).2; unfold Hid; rw [unhide hNA, unhide hL0] at this; omega
        by_cases hlt : j < NA
        · obtain ⟨b, off, rfl, hb, k1, k2, k3, k4⟩ := unhide HA j (by rw [unhide hNA]; exact hlt)
          have i2 : (j : Int) < (NA : Int) := by omega
          have hstep : Hid (rwk R0 A (j + 1) = acts (rwk R0 A j) (ax A j)) := by unfold Hid; show (if j < A.length then _ else _) = _; rw [if_pos (by rw [unhide hNA]; exact hlt)]
          obtain ⟨ad, ead⟩ : ∃ ad, ax A j = ad := ⟨_, rfl⟩
          rw [ead] at k1 k2 k3 k4 hstep
          obtain ⟨dc, dn, ds⟩ := ad
          have HK := hide (And.intro k1 (And.intro k2 (And.intro k3 k4)))
          clear k1 k2 k3 k4 ead
          have k1 : wr.cell? ⟨b, off + j * 3, none⟩ = some (.bool dc) := ((unhide HT1).bel.cell (p := ⟨b, off + j * 3, none⟩) hb).trans (unhide HK).1
          have k2 : wr.cell? ⟨b, off + j * 3 + 1, none⟩ = some (.int .i64 dn) := ((unhide HT1).bel.cell (p := ⟨b, off + j * 3 + 1, none⟩) hb).trans (unhide HK).2.1
          have k3 : wr.cell? ⟨b, off + j * 3 + 2, none⟩ = some (.string ds) := ((unhide HT1).bel.cell (p := ⟨b, off + j * 3 + 2, none⟩) hb).trans (unhide HK).2.2.1
          have hAd := ((unhide HT1).below (Below.refl _ wr).drew).done ⟨dc, dn, ds⟩ (unhide HK).2.2.2 (by have := unhide hlen; omega)
          unfold AcD.val at hAd
          have HAd := hide hAd
          clear hAd
          gi_wp2_with fail
          apply wpIn_cut (R := TS w tv q ab dd p (acts (rwk R0 A j) ⟨dc, dn, ds⟩) (rwk R0 A j) u4)
          case h =>
            first | gi_region_with_o (refine ⟨trivial, (fun q => by cases q), (callsIn_wide.2 (unhide HAd)).mono ?_⟩; rintro e w2 ⟨rfl, hT2⟩; have HT2 := hide hT2; clear hT2) | fail "region"
            all_goals exact ⟨rfl, unhide HT2⟩
          case hq =>
            clear k1 k2 k3 c0 cq HAd
            intro w2 hT2
            have hR := rdone_any hT2.row ⟨dc, dn, ds⟩ (by have := unhide hlen; omega)
            unfold AcD.val at hR
            have HR := hide hR
            have c0 : w2.cell? ⟨w.heap.size, 1, none⟩ = some (.slice (some ⟨b, off, none⟩) NA cA) := hT2.tb 1 _ (by rw [unhide Hv]; rfl)
            have hws2 : w.heap.size < w2.heap.size := World.block_lt_of_cell? _ _ c0
            have k1 : w2.cell? ⟨b, off + j * 3, none⟩ = some (.bool dc) := (hT2.bel.cell (p := ⟨b, off + j * 3, none⟩) hb).trans (unhide HK).1
            have k2 : w2.cell? ⟨b, off + j * 3 + 1, none⟩ = some (.int .i64 dn) := (hT2.bel.cell (p := ⟨b, off + j * 3 + 1, none⟩) hb).trans (unhide HK).2.1
            have k3 : w2.cell? ⟨b, off + j * 3 + 2, none⟩ = some (.string ds) := (hT2.bel.cell (p := ⟨b, off + j * 3 + 2, none⟩) hb).trans (unhide HK).2.2.1
            have HT2 := hide hT2
            clear hT2 hR HT1
            gi_wp2_with fail
            refine ⟨trivial, (fun q => by cases q), (callsIn_wide.2 (unhide HR)).mono ?_⟩
            rintro e w3 ⟨u, rfl, r1, r2, r3⟩
            have HT3 := hide ((unhide HT2).rowTo r1 r2 r3)
            clear HR r1 r2 r3 HT2 k1 k2 k3
            gi_wp2_with fail
            go_roundw
            case rel => exact ⟨j + 1, hlt, by go_num, by rw [unhide hstep]; exact HT3⟩
            case measure => simp [intOf]; omega
        · have i2 : ¬ (j : Int) < (NA : Int) := by omega
          gi_wp2_with fail
          obtain ⟨R, eR⟩ : ∃ R, Hid (rwk R0 A j = R) := ⟨_, rfl⟩
          have hRl : R.length ≤ 2097152 := by have := unhide hlen; rw [unhide eR] at this; exact this
          rw [unhide eR] at HT1
          clear hlen c0 cq hws
          refine wpIn_loop_rounds 3 (rounds_two (I := TI w tv q ab p) ?round2 ?last _ _ ?first)
          case first => exact TI.make rfl (unhide HT1) (by omega) (.inl ⟨rfl, rfl⟩)
          case last =>
            clear HT1 hRl eR
            rintro a X ⟨dd, R, vr, ds, x, rfl, HQ⟩
            obtain ⟨hT, hL, hM⟩ := unhide HQ
            rcases hM with ⟨h, _⟩ | ⟨h, _⟩ | ⟨_, D, rfl, h3, h4, h5, h6, h7⟩
            · omega
            · omega
            · have d0 := hT.dk
              rw [h3] at d0
              have HT := hide hT
              have HF := hide (And.intro h4 (And.intro h5 (And.intro h6 (And.intro h7 d0))))
              have c5 := hT.rb.1
              have f5 := hT.rb.2
              clear hT h3 h4 h5 h6 h7 d0 HQ hL
              gi_wp2_with fail
              obtain ⟨h4, h5, h6, h7, d0⟩ := unhide HF
              have g := unhide HT
              have hs := g.bel.size
              have k2 : (X.setCell ⟨w.heap.size + 1, 0, none⟩ (.bool true)).heap[D]? = some (.deferred (some [])) := (Below.heap_setCell _ _ _ _ (by show _ ≠ w.heap.size + 1; omega)).trans h7
              have k1 : ((X.setCell ⟨w.heap.size + 1, 0, none⟩ (.bool true)).putObj D (.deferred none)).heap[dd.1]? = some (.deferred (some [])) := (World.putObj_heap_other (by omega)).trans ((Below.heap_setCell _ _ _ _ (by show _ ≠ w.heap.size + 1; omega)).trans d0)
              have e5 := ((g.rb.set (.bool true)).keep (fr_sh D _ (.deferred none)) (by show ¬ _ = _; omega)).keep (fr_sh dd.1 _ (.deferred none)) (by show ¬ _ = _; omega)
              have he5 := e5.1
              have bX : Below w.heap.size w (X.setCell ⟨w.heap.size + 1, 0, none⟩ (.bool true)) := g.bel.setCell (p := ⟨w.heap.size + 1, 0, none⟩) (by show w.heap.size ≤ w.heap.size + 1; omega) _
              refine ⟨by simp, .inl ⟨_, _, rfl, run_takeDeferred k2, by simp, .inl ⟨_, _, rfl, run_takeDeferred k1, .bool true, ?_, rfl, (bX.trans ((fr_sh D _ (.deferred none)).below bX.size (fun k hk e => by omega))).trans ((fr_sh dd.1 _ (.deferred none)).below (by simp; omega) (fun k hk e => by omega))⟩⟩⟩
              simp [results, Try.f4, go_sem, he5]
          case round2 =>
            clear HT1 hRl eR
            rintro tm a wr htm ⟨dd, R, vr, ds, x, rfl, HQ⟩
            obtain ⟨hT1, hRL, hMK⟩ := unhide HQ
            have HT1 := hide hT1
            have HRL := hide hRL
            have HMK := hide hMK
            have htm2 : (tm : Int) < 2 := by omega
            have hRl : R.length ≤ 3145728 := by omega
            clear hT1 hRL hMK HQ
            have HWk := hide (rwalk_any (unhide HT1).row (unhide HT1).rlt ((unhide HI).below (unhide HT1).bel) stop hRl (by rw [unhide hNI]; exact lI))
            have d2 : wr.cell? ⟨w.heap.size, 2, none⟩ = some (.slice aI NI cI) := (unhide HT1).tb 2 _ (by rw [unhide Hv]; rfl)
            have d3 : wr.cell? ⟨w.heap.size, 3, none⟩ = some (.int .i64 stop) := (unhide HT1).tb 3 _ (by rw [unhide Hv]; rfl)
            have hws : w.heap.size < wr.heap.size := World.block_lt_of_cell? _ _ d2
            gi_wp2_with fail
            refine ⟨trivial, (fun q => by cases q), (callsIn_wide.2 (unhide HWk)).mono ?_⟩
            rintro e w3 ⟨m, u, g, rfl, hW⟩
            obtain ⟨b, vq, hLC⟩ := LC.make (unhide HT1) hW
            obtain ⟨ga, gc, rfl⟩ := own_form hW.got
            have HLC := hide hLC
            obtain ⟨ua, uc, eu, _, _, _⟩ := hW.row
            obtain ⟨Lu, hLu⟩ : ∃ L, Hid ((rwk R I m).length = L) := ⟨_, rfl⟩
            rw [unhide hLu] at eu
            subst eu
            clear hLC hW HWk d2 d3
            gi_wp2_with fail
            obtain ⟨wq, ewq⟩ : ∃ wq, wq = (w3.alloc (.cells #[.slice ga m gc] 56)).alloc (.cells #[.int .i64 0] 3) := ⟨_, rfl⟩
            rw [← ewq] at HLC ⊢
            obtain ⟨wb, ewb⟩ : ∃ x, Hid (w3.heap.size = x) := ⟨_, rfl⟩
            obtain ⟨nb, enb⟩ : ∃ x, Hid (w3.heap.size + 1 = x) := ⟨_, rfl⟩
            rw [unhide enb, unhide ewb] at HLC ⊢
            have hRk : ∀ k, (rwk R I k).length ≤ 4194304 := fun k => by have := (rwk_length R I k).2; rw [unhide hNI] at this; omega
            have HRk := hide hRk
            clear ewq HT1 hRk
            apply wpIn_cutB (i := 6) (R := fun X => LJ wq p b vq nb R I m m X ∧ X.heap[wq.heap.size]? = some (.deferred (some [])))
            case h =>
              refine wpIn_hands2 rfl (by omega) (gf := 37) (lb := #[.pointer (some ⟨ab, 0, none⟩)]) rfl trivial (enters_of Try.func37 (by kernel_rfl) rfl) (all1_hands (n - 1) ab p (rwk R I) (fun k => by have := unhide HRk k; omega)) (fun _ => rfl)
                (fun k X => LJ wq p b vq nb R I m k X ∧ (0 < k → (k : Int) ≠ stop)) (fun c k X => c = .exit 6 ∧ LJ wq p b vq nb R I m k X ∧ 0 < k ∧ (k : Int) = stop)
                (fun k X h => ⟨(LJ.cell (unhide HLC) h.1 (unhide HLC).ts.wb.lt (fun e => ((unhide HLC).ft ab e).2.2.1 rfl) (fun e => (unhide HLC).nne.2.2.1 e.symm)).trans (unhide HLC).ts.wb.1, b, _, h.1.ix.choose_spec.1⟩)
                (fun k X Y h f => ⟨LJ.keep (unhide HLC) h.1 f, h.2⟩) (fun c k X Y h f => ⟨h.1, LJ.keep (unhide HLC) h.2.1 f, h.2.2⟩) ⟨(unhide HLC).start, (by intro h; omega)⟩ ?round ?done ?stop
              case round =>
                intro l k X0 hI0 hA
                simp only [encW]
                gi_wp2_with fail
                refine ⟨trivial, ?_⟩
                rintro Y ⟨hJ, hno⟩ hD
                clear hI0 X0
                have hkm := (unhide HLC).lt hJ.le hA hno
                obtain ⟨v1, ix1, hv1⟩ := hJ.ix
                have hm : m ≤ 4194304 := by
                  have h1 := (unhide HLC).over.1 (m - 1) (by omega)
                  have h2 := h1.2
                  have h3 := unhide HRk (m - 1)
                  omega
                obtain ⟨gg, gcap, eg⟩ : ∃ gg c, ga = some ⟨gg, 0, none⟩ ∧ gc = c := by
                  rcases (unhide HLC).got.2 with ⟨e, h0⟩ | ⟨g, cap, cur, e, _⟩
                  · omega
                  · cases e; exact ⟨g, _, rfl, rfl⟩
                obtain ⟨rfl, rfl⟩ := eg
                have hgl := (unhide HLC).got.lt gg rfl
                have hgn : ¬ Foot p b vq gg := fun e => ((unhide HLC).ft gg e).2.2.2.2.2.2.1 rfl
                have hgb : gg ≠ nb := fun e => (unhide HLC).nne.2.2.2.2.2 (by rw [← e]; rfl)
                have hp := pcs_at (rwk R I) m k hkm
                have p0 : Y.cell? ⟨gg, k * 2, none⟩ = some (.int .i64 (k : Int)) := by
                  rw [LJ.cell (unhide HLC) hJ hgl.2 hgn hgb]
                  have := (unhide HLC).got.cells (g := gg) rfl _ _ hp.1
                  rw [Go.WideShapes.add_plain, Nat.zero_add] at this
                  exact this
                have p1 : Y.cell? ⟨gg, k * 2 + 1, none⟩ = some (.string (tx (rwk R I k) k)) := by
                  rw [LJ.cell (unhide HLC) hJ hgl.2 hgn hgb]
                  have := (unhide HLC).got.cells (g := gg) rfl _ _ hp.2
                  rw [Go.WideShapes.add_plain, Nat.zero_add] at this
                  exact this
                have cw : Y.cell? ⟨wb, 0, none⟩ = some (.slice (some ⟨gg, 0, none⟩) m gc) := (LJ.cell (unhide HLC) hJ (unhide HLC).wbx.lt (fun e => ((unhide HLC).ft wb e).2.2.2.1 rfl) (fun e => (unhide HLC).nne.2.2.2.1 e.symm)).trans (unhide HLC).wbx.1
                have cn : Y.cell? ⟨nb, 0, none⟩ = some (.int .i64 (k : Int)) := hJ.nbx.1
                have nt : ¬ Foot p b vq w.heap.size := fun e => by have := ((unhide HLC).ft _ e).1; omega
                have nn : w.heap.size ≠ nb := by have := (unhide HLC).nne.1; omega
                have ltw : w.heap.size < wq.heap.size := by have := (unhide HLC).ts.rb.lt; omega
                have d2 : Y.cell? ⟨w.heap.size, 2, none⟩ = some (.slice aI NI cI) := (LJ.cell (unhide HLC) hJ ltw nt nn).trans ((unhide HLC).ts.tb 2 _ (by rw [unhide Hv]; rfl))
                have d3 : Y.cell? ⟨w.heap.size, 3, none⟩ = some (.int .i64 stop) := (LJ.cell (unhide HLC) hJ ltw nt nn).trans ((unhide HLC).ts.tb 3 _ (by rw [unhide Hv]; rfl))
                have d4 : Y.cell? ⟨w.heap.size, 4, none⟩ = some (.int .i64 other) := (LJ.cell (unhide HLC) hJ ltw nt nn).trans ((unhide HLC).ts.tb 4 _ (by rw [unhide Hv]; rfl))
                have cq : Y.cell? ⟨q, 0, none⟩ = some (.pointer (some ⟨p, 0, none⟩)) := (LJ.cell (unhide HLC) hJ (unhide HLC).ts.xb.lt (fun e => ((unhide HLC).ft q e).2.1 rfl) (fun e => (unhide HLC).nne.2.1 e.symm)).trans (unhide HLC).ts.xb.1
                have HP := hide (And.intro hJ (And.intro hno (And.intro hkm hA)))
                have HX1 := hide (And.intro ix1 hv1)
                have HD := hide hD
                obtain ⟨t, et⟩ : ∃ t, Hid (tx (rwk R I k) k = t) := ⟨_, rfl⟩
                rw [unhide et] at p1 ⊢
                have i0 : (0 : Int) ≤ (k : Int) := by omega
                have i1 : (k : Int) < (m : Int) := by omega
                clear hJ hno hp hgl hgn hgb nt nn ix1 hv1 hA hkm
                gi_wp2_with fail
                have nn : w.heap.size ≠ nb := by have := (unhide HLC).nne.1; omega
                by_cases hoth : (k : Int) = other
                · subst hoth
                  have HGo := hide (gone_any ((unhide HX1).1.below (Below.refl _ Y).drew) (by have := unhide HRk k; omega))
                  have hql : q < Y.heap.size := World.block_lt_of_cell? _ _ cq
                  apply wpIn_cut (R := fun Z => Below Y.heap.size Y Z)
                  case h =>
                    first | gi_region_with_o (first | (refine ⟨trivial, (fun q => by cases q), (CallsIn.inRound l (callsIn_wide.2 (unhide HGo))).mono ?_⟩; rintro e w2 ⟨rfl, hB2⟩; have HB2 := hide hB2; have cq2 := (hB2.cell (p := ⟨q, 0, none⟩) hql).trans cq; have HLn := hide (len_any (((unhide HX1).1.below (Below.refl _ Y).drew).below hB2)); clear hB2) | (refine ⟨trivial, (fun q => by cases q), (CallsIn.inRound l (callsIn_wide.2 (unhide HLn))).mono ?_⟩; rintro e w4 ⟨rfl, ew4⟩; rw [ew4]; clear ew4 w4)) | fail "region 28"
                    all_goals exact ⟨rfl, ((Below.refl _ Y).drew).trans (unhide HB2)⟩
                  case hq =>
                    intro Z hZ
                    have hJZ := LJ.keep (unhide HLC) (unhide HP).1 (Fr.of_below hZ)
                    have ixZ := (unhide HX1).1.below hZ
                    have cnZ := (hZ.cell (p := ⟨nb, 0, none⟩) (World.block_lt_of_cell? _ _ cn)).trans cn
                    have d2Z := (hZ.cell (p := ⟨w.heap.size, 2, none⟩) (World.block_lt_of_cell? _ _ d2)).trans d2
                    have d3Z := (hZ.cell (p := ⟨w.heap.size, 3, none⟩) (World.block_lt_of_cell? _ _ d3)).trans d3
                    have cqZ := (hZ.cell (p := ⟨q, 0, none⟩) (World.block_lt_of_cell? _ _ cq)).trans cq
                    have hBZ : Below w.heap.size w Z := (unhide HLC).ts.bel.trans (hJZ.fr.below (unhide HLC).ts.bel.size (fun x hx e => e.elim (fun e => by have := ((unhide HLC).ft x e).1; omega) (fun e => by have := (unhide HLC).nne.1; omega)))
                    have HS1 : Hid (Stay wq.heap.size Y Z) := ⟨(Fr.of_below (S := fun _ => False) hZ).block _ (by have := unhide HD; omega) (fun e => e), (Fr.of_below (S := fun _ => False) hZ).block _ (unhide HD) (fun e => e)⟩
                    have HDZ : Hid (wq.heap.size + 1 < Z.heap.size) := Nat.lt_of_lt_of_le (unhide HD) hZ.size
                    have HJZ := hide hJZ
                    clear hJZ hZ cn d2 d3 d4 cq cw p0 p1
                    by_cases hkI : k < NI
                    · obtain ⟨b2, off2, eI, hb2, k1, k2, k3, k4⟩ := unhide HIc k (by rw [unhide hNI]; exact hkI)
                      subst eI
                      have hstep : Hid (rwk R I (k + 1) = acts (rwk R I k) (ax I k)) := by unfold Hid; show (if k < I.length then _ else _) = _; rw [if_pos (by rw [unhide hNI]; exact hkI)]
                      obtain ⟨ad, ead⟩ : ∃ ad, ax I k = ad := ⟨_, rfl⟩
                      rw [ead] at k1 k2 k3 k4 hstep
                      obtain ⟨dc, dn, ds⟩ := ad
                      have k1 := (hBZ.cell (p := ⟨b2, off2 + k * 3, none⟩) hb2).trans k1
                      have k2 := (hBZ.cell (p := ⟨b2, off2 + k * 3 + 1, none⟩) hb2).trans k2
                      have k3 := (hBZ.cell (p := ⟨b2, off2 + k * 3 + 2, none⟩) hb2).trans k3
                      have hDn := done_any (ixZ.below (Below.refl _ Z).drew) ⟨dc, dn, ds⟩ k4 (by have := unhide HRk k; omega)
                      unfold AcD.val at hDn
                      have HDn := hide hDn
                      have i3 : (k : Int) < (NI : Int) := by omega
                      clear hDn ead
                      have HBZ := hide hBZ
                      have HIZ := hide ixZ
                      clear hBZ ixZ
                      gi_wp2_with fail
                      apply wpIn_cut (R := fun Z2 => ∃ v2, Ix Z2 p b v2 (acts (rwk R I k) ⟨dc, dn, ds⟩) ∧ IStep p b Z v1 Z2 v2)
                      case h =>
                        first | gi_region_with_o (refine ⟨trivial, (fun q => by cases q), (CallsIn.inRound l (callsIn_wide.2 (unhide HDn))).mono ?_⟩; rintro e w2 ⟨rfl, v2, j1, j2⟩; have HN2 := hide (And.intro j1 j2); clear j1 j2) | fail "region 31"
                        all_goals exact ⟨rfl, _, (unhide HN2).1, istep_after (Below.refl _ Z).drew (unhide HN2).2⟩
                      case hq =>
                        clear k1 k2 k3 HDn cnZ d2Z cqZ
                        rintro Zc ⟨v2, j1, j2⟩
                        obtain ⟨hv2, hfr2, hnb2, stay2⟩ := LJ.turn (unhide HLC) (unhide HJZ) (unhide HDZ) (unhide HX1).2 j1 j2
                        have stayc := (unhide HS1).trans stay2
                        have nx := LJ.next (unhide HLC) hv2 (by rw [unhide hstep]; exact j1) hfr2 hnb2 (unhide HP).2.2.1
                        have HNX := hide nx
                        have HST := hide (stayc.trans nx.2)
                        have cn2 := hnb2.1
                        have fn2 := hnb2.2
                        have e3 : Zc.cell? ⟨w.heap.size, 3, none⟩ = some (.int .i64 stop) := (hfr2.cell (a := ⟨w.heap.size, 3, none⟩) ltw (fun e => e.elim (fun e => by have h9 : w.heap.size + 1 < w.heap.size := ((unhide HLC).ft _ e).1; omega) (fun e => nn e))).trans ((unhide HLC).ts.tb 3 _ (by rw [unhide Hv]; rfl))
                        have hnoS := hide (unhide HP).2.1
                        have hwz : w.heap.size < Zc.heap.size := World.block_lt_of_cell? _ _ e3
                        have hnz : nb < Zc.heap.size := World.block_lt_of_cell? _ _ cn2
                        clear nx hfr2 hnb2 hv2 stayc
                        by_cases hst : stop = (k : Int) + 1
                        · subst hst
                          gi_wp2_with fail
                          exact ⟨unhide HST, rfl, (unhide HNX).1, by omega, by omega⟩
                        · have hst2 : ¬ (k : Int) + 1 = stop := fun e => hst e.symm
                          gi_wp2_with fail
                          exact ⟨unhide HST, (unhide HNX).1, fun _ => by omega⟩
                    · have i3 : ¬ (k : Int) < (NI : Int) := by omega
                      have hstep : Hid (rwk R I (k + 1) = rwk R I k) := by unfold Hid; show (if k < I.length then _ else _) = _; rw [if_neg (by rw [unhide hNI]; exact hkI)]
                      obtain ⟨Zc, eZc⟩ : ∃ Zc, Z = Zc := ⟨_, rfl⟩
                      subst eZc
                      have hv2 := (unhide HX1).2
                      have hfr2 := (unhide HJZ).fr
                      have hnb2 := (unhide HJZ).nbx
                      have stayc := unhide HS1
                      have nx := LJ.next (unhide HLC) hv2 (by rw [unhide hstep]; exact ixZ) hfr2 hnb2 (unhide HP).2.2.1
                      have HNX := hide nx
                      have HST := hide (stayc.trans nx.2)
                      have fn2 := hnb2.2
                      have hwz : w.heap.size < Z.heap.size := World.block_lt_of_cell? _ _ d2Z
                      have hnz : nb < Z.heap.size := World.block_lt_of_cell? _ _ cnZ
                      clear nx hfr2 hnb2 hv2 stayc ixZ hBZ
                      by_cases hst : stop = (k : Int) + 1
                      · subst hst
                        gi_wp2_with fail
                        exact ⟨unhide HST, rfl, (unhide HNX).1, by omega, by omega⟩
                      · have hst2 : ¬ (k : Int) + 1 = stop := fun e => hst e.symm
                        gi_wp2_with fail
                        exact ⟨unhide HST, (unhide HNX).1, fun _ => by omega⟩
                · apply wpIn_cut (R := fun Z => Below Y.heap.size Y Z)
                  case h =>
                    first | gi_region_with_o (refine ⟨trivial, ?_⟩) | fail "region 28b"
                    all_goals exact ⟨rfl, (Below.refl _ Y).drew⟩
                  case hq =>
                    intro Z hZ
                    have hJZ := LJ.keep (unhide HLC) (unhide HP).1 (Fr.of_below hZ)
                    have ixZ := (unhide HX1).1.below hZ
                    have cnZ := (hZ.cell (p := ⟨nb, 0, none⟩) (World.block_lt_of_cell? _ _ cn)).trans cn
                    have d2Z := (hZ.cell (p := ⟨w.heap.size, 2, none⟩) (World.block_lt_of_cell? _ _ d2)).trans d2
                    have d3Z := (hZ.cell (p := ⟨w.heap.size, 3, none⟩) (World.block_lt_of_cell? _ _ d3)).trans d3
                    have cqZ := (hZ.cell (p := ⟨q, 0, none⟩) (World.block_lt_of_cell? _ _ cq)).trans cq
                    have hBZ : Below w.heap.size w Z := (unhide HLC).ts.bel.trans (hJZ.fr.below (unhide HLC).ts.bel.size (fun x hx e => e.elim (fun e => by have := ((unhide HLC).ft x e).1; omega) (fun e => by have := (unhide HLC).nne.1; omega)))
                    have HS1 : Hid (Stay wq.heap.size Y Z) := ⟨(Fr.of_below (S := fun _ => False) hZ).block _ (by have := unhide HD; omega) (fun e => e), (Fr.of_below (S := fun _ => False) hZ).block _ (unhide HD) (fun e => e)⟩
                    have HDZ : Hid (wq.heap.size + 1 < Z.heap.size) := Nat.lt_of_lt_of_le (unhide HD) hZ.size
                    have HJZ := hide hJZ
                    clear hJZ hZ cn d2 d3 d4 cq cw p0 p1
                    by_cases hkI : k < NI
                    · obtain ⟨b2, off2, eI, hb2, k1, k2, k3, k4⟩ := unhide HIc k (by rw [unhide hNI]; exact hkI)
                      subst eI
                      have hstep : Hid (rwk R I (k + 1) = acts (rwk R I k) (ax I k)) := by unfold Hid; show (if k < I.length then _ else _) = _; rw [if_pos (by rw [unhide hNI]; exact hkI)]
                      obtain ⟨ad, ead⟩ : ∃ ad, ax I k = ad := ⟨_, rfl⟩
                      rw [ead] at k1 k2 k3 k4 hstep
                      obtain ⟨dc, dn, ds⟩ := ad
                      have k1 := (hBZ.cell (p := ⟨b2, off2 + k * 3, none⟩) hb2).trans k1
                      have k2 := (hBZ.cell (p := ⟨b2, off2 + k * 3 + 1, none⟩) hb2).trans k2
                      have k3 := (hBZ.cell (p := ⟨b2, off2 + k * 3 + 2, none⟩) hb2).trans k3
                      have hDn := done_any (ixZ.below (Below.refl _ Z).drew) ⟨dc, dn, ds⟩ k4 (by have := unhide HRk k; omega)
                      unfold AcD.val at hDn
                      have HDn := hide hDn
                      have i3 : (k : Int) < (NI : Int) := by omega
                      clear hDn ead
                      have HBZ := hide hBZ
                      have HIZ := hide ixZ
                      clear hBZ ixZ
                      gi_wp2_with fail
                      apply wpIn_cut (R := fun Z2 => ∃ v2, Ix Z2 p b v2 (acts (rwk R I k) ⟨dc, dn, ds⟩) ∧ IStep p b Z v1 Z2 v2)
                      case h =>
                        first | gi_region_with_o (refine ⟨trivial, (fun q => by cases q), (CallsIn.inRound l (callsIn_wide.2 (unhide HDn))).mono ?_⟩; rintro e w2 ⟨rfl, v2, j1, j2⟩; have HN2 := hide (And.intro j1 j2); clear j1 j2) | fail "region 31"
                        all_goals exact ⟨rfl, _, (unhide HN2).1, istep_after (Below.refl _ Z).drew (unhide HN2).2⟩
                      case hq =>
                        clear k1 k2 k3 HDn cnZ d2Z cqZ
                        rintro Zc ⟨v2, j1, j2⟩
                        obtain ⟨hv2, hfr2, hnb2, stay2⟩ := LJ.turn (unhide HLC) (unhide HJZ) (unhide HDZ) (unhide HX1).2 j1 j2
                        have stayc := (unhide HS1).trans stay2
                        have nx := LJ.next (unhide HLC) hv2 (by rw [unhide hstep]; exact j1) hfr2 hnb2 (unhide HP).2.2.1
                        have HNX := hide nx
                        have HST := hide (stayc.trans nx.2)
                        have cn2 := hnb2.1
                        have fn2 := hnb2.2
                        have e3 : Zc.cell? ⟨w.heap.size, 3, none⟩ = some (.int .i64 stop) := (hfr2.cell (a := ⟨w.heap.size, 3, none⟩) ltw (fun e => e.elim (fun e => by have h9 : w.heap.size + 1 < w.heap.size := ((unhide HLC).ft _ e).1; omega) (fun e => nn e))).trans ((unhide HLC).ts.tb 3 _ (by rw [unhide Hv]; rfl))
                        have hnoS := hide (unhide HP).2.1
                        have hwz : w.heap.size < Zc.heap.size := World.block_lt_of_cell? _ _ e3
                        have hnz : nb < Zc.heap.size := World.block_lt_of_cell? _ _ cn2
                        clear nx hfr2 hnb2 hv2 stayc
                        by_cases hst : stop = (k : Int) + 1
                        · subst hst
                          gi_wp2_with fail
                          exact ⟨unhide HST, rfl, (unhide HNX).1, by omega, by omega⟩
                        · have hst2 : ¬ (k : Int) + 1 = stop := fun e => hst e.symm
                          gi_wp2_with fail
                          exact ⟨unhide HST, (unhide HNX).1, fun _ => by omega⟩
                    · have i3 : ¬ (k : Int) < (NI : Int) := by omega
                      have hstep : Hid (rwk R I (k + 1) = rwk R I k) := by unfold Hid; show (if k < I.length then _ else _) = _; rw [if_neg (by rw [unhide hNI]; exact hkI)]
                      obtain ⟨Zc, eZc⟩ : ∃ Zc, Z = Zc := ⟨_, rfl⟩
                      subst eZc
                      have hv2 := (unhide HX1).2
                      have hfr2 := (unhide HJZ).fr
                      have hnb2 := (unhide HJZ).nbx
                      have stayc := unhide HS1
                      have nx := LJ.next (unhide HLC) hv2 (by rw [unhide hstep]; exact ixZ) hfr2 hnb2 (unhide HP).2.2.1
                      have HNX := hide nx
                      have HST := hide (stayc.trans nx.2)
                      have fn2 := hnb2.2
                      have hwz : w.heap.size < Z.heap.size := World.block_lt_of_cell? _ _ d2Z
                      have hnz : nb < Z.heap.size := World.block_lt_of_cell? _ _ cnZ
                      clear nx hfr2 hnb2 hv2 stayc ixZ hBZ
                      by_cases hst : stop = (k : Int) + 1
                      · subst hst
                        gi_wp2_with fail
                        exact ⟨unhide HST, rfl, (unhide HNX).1, by omega, by omega⟩
                      · have hst2 : ¬ (k : Int) + 1 = stop := fun e => hst e.symm
                        gi_wp2_with fail
                        exact ⟨unhide HST, (unhide HNX).1, fun _ => by omega⟩
              case done =>
                rintro k X hE ⟨hJ, _⟩ hd
                obtain rfl := (unhide HLC).done hJ.le hE
                exact ⟨.inl rfl, rfl, hJ, hd⟩
              case stop =>
                rintro c k X ⟨rfl, hJ, h0, hs⟩ hd
                obtain rfl := (unhide HLC).halt hJ.le h0 hs
                exact wpIn_exit ⟨.inr rfl, rfl, hJ, hd⟩
            case hq =>
              rintro X ⟨hJ, hd⟩
              have hT := LJ.ts (unhide HLC) hJ
              have cw : X.cell? ⟨wb, 0, none⟩ = some (.slice ga m gc) := (LJ.cell (unhide HLC) hJ (unhide HLC).wbx.lt (fun e => ((unhide HLC).ft wb e).2.2.2.1 rfl) (fun e => (unhide HLC).nne.2.2.2.1 e.symm)).trans (unhide HLC).wbx.1
              have cn : X.cell? ⟨nb, 0, none⟩ = some (.int .i64 (m : Int)) := hJ.nbx.1
              have cq : X.cell? ⟨q, 0, none⟩ = some (.pointer (some ⟨p, 0, none⟩)) := hT.xb.1
              have hRm := unhide HRk m
              -- the marks behind the walk
              have hEnd : ∃ dd', (∀ Y, Below X.heap.size X Y → TS w tv q ab dd' p (rwk R I m) (rwk R I m) (.slice ua Lu uc) Y ∧ MK w (tm + 1) dd' ({ target := .collected wq.heap.size, args := #[] } :: ds) Y) := by
                have lq := (unhide HLC).ts.rb.lt
                rcases unhide HMK with ⟨h1, h2⟩ | ⟨h1, h2, h3, h4⟩ | ⟨h1, _⟩
                · refine ⟨(wq.heap.size, .deferred (some [])), fun Y f => ⟨(LJ.ts2 (unhide HLC) hJ hd).below f, .inr (.inl ⟨by omega, by rw [h2], rfl, by show _ < wq.heap.size; omega⟩)⟩⟩
                · have ld := blk_lt (unhide HLC).ts.dk
                  refine ⟨dd, fun Y f => ⟨hT.below f, .inr (.inr ⟨by omega, wq.heap.size, by rw [h2], h3, h4, by omega, by omega, (f.block _ (blk_lt hd)).trans hd⟩)⟩⟩
                · omega
              have HEND := hide hEnd
              obtain ⟨b2, v2, j1, j2⟩ := hT.ix
              have HIT := items_any j1 (by omega)
              rw [unhide hLu] at HIT
              have HIT := hide HIT
              have HT2 := hide hT
              clear hJ hT hd hEnd j1 j2
              gi_wp2_with fail
              refine ⟨trivial, (fun q => by cases q), (callsIn_wide.2 (unhide HIT)).mono ?_⟩
              rintro e w5 ⟨rfl, own5, b5⟩
              have hR5 : Rt w5 (.slice (some ⟨X.heap.size, 0, none⟩) Lu Lu) (rwk R I m) := Rt.own (by rw [unhide hLu]; exact own5)
              have HSM := hide (same_any hR5 ((unhide HT2).below b5).row)
              have HB5 := hide b5
              clear own5 hR5 b5
              gi_wp2_with fail
              refine ⟨trivial, (fun q => by cases q), (callsIn_wide.2 (unhide HSM)).mono ?_⟩
              rintro e w6 ⟨rfl, k6, rfl⟩
              have hB6 : Below X.heap.size X (w5.drewN k6) := (unhide HB5).trans ((Fr.drewN (S := fun _ => False) k6).below (unhide HB5).size (fun _ _ e => e))
              have HB6 := hide hB6
              clear hB6
              gi_wp2_with fail

              obtain ⟨dd', hE⟩ := unhide HEND
              exact TI.make (by go_num) (hE _ (unhide HB6)).1 (by have := (rwk_length R I m).2; rw [unhide hNI] at this; have := unhide HRL; omega) (hE _ (unhide HB6)).2
end Go.Proofs.Ythmcalapofjmfaa
