/-
  The document's Encode.
-/
import Derived.Test.YtaldacjeeccbhaaE5
namespace Go.Proofs.Ytaldacjeeccbhaa
open Go.RowKit
set_option linter.unusedVariables false
set_option linter.unusedSimpArgs false
/-- Bytes of one's own, beside the box of the profile. -/
structure RS (w : World) (u : Value) (l : Value) (bs : List Int) (wr : World) : Prop where
  own : wr.ownsRow (w.heap.size + 1) 5 1 l bs.length (bs.map By)
  bel : Below (w.heap.size + 1) (w.alloc (.cells #[u] 24)) wr
theorem own_on {w w' : World} {base : Nat} {v : Value} {n : Nat} {xs : List Value} (h : w.ownsRow base 5 1 v n xs) (k : Below w.heap.size w w') : w'.ownsRow base 5 1 v n xs := by
  obtain ⟨h1, h2⟩ := h
  refine ⟨h1, ?_⟩
  rcases h2 with h2 | ⟨g, cap, cur, q1, q2, q3, q4⟩
  · exact .inl h2
  · exact .inr ⟨g, cap, cur, q1, q2, (k.block g (Array.getElem?_eq_some_iff.1 q3).1).trans q3, q4⟩
theorem RS.on {w wr w' : World} {u l : Value} {bs : List Int} (h : RS w u l bs wr) (k : Below wr.heap.size wr w') : RS w u l bs w' := by
  have hs := h.bel.size
  simp at hs
  exact ⟨own_on h.own k, h.bel.trans (k.mono hs)⟩
theorem RS.step {w wr w' : World} {u l l' : Value} {bs bs' : List Int} (h : RS w u l bs wr) (k : RG (w.heap.size + 1) l wr l' bs' w') : RS w u l' bs' w' := by
  have hs := h.bel.size
  simp at hs
  exact ⟨k.own, h.bel.trans (k.fr.below hs (fun q hq e => by have := (h.own.lt q e).1; omega))⟩
theorem RS.out {w wr : World} {u l : Value} {bs : List Int} (h : RS w u l bs wr) : Below w.heap.size w wr ∧ wr.cell? ⟨w.heap.size, 0, none⟩ = some u ∧ w.heap.size < wr.heap.size := by
  have h1 := heap_alloc_new w (.cells #[u] 24)
  obtain ⟨c, -, z⟩ := blk_cells ((h.bel.block w.heap.size (by omega)).trans h1)
  exact ⟨((Below.refl _ w).alloc (Nat.le_refl _) _).trans (h.bel.mono (by omega)), c 0, z⟩
theorem RS.start (w : World) (u : Value) : RS w u (.slice (some ⟨w.heap.size + 1, 0, none⟩) 4 4) sgn4 ((w.alloc (.cells #[u] 24)).alloc (.cells #[.int .u8 80, .int .u8 84, .int .u8 70, .int .u8 1] 5)) := by
  refine ⟨⟨by simp [sgn4], .inr ⟨w.heap.size + 1, 4, #[.int .u8 80, .int .u8 84, .int .u8 70, .int .u8 1], rfl, Nat.le_refl _, ?_, by simp [sgn4], by unfold maxLen; omega, by simp, by simp [sgn4, By]⟩⟩, (Below.refl _ _).alloc (by simp) _⟩
  have := heap_alloc_new (w.alloc (.cells #[u] 24)) (.cells #[.int .u8 80, .int .u8 84, .int .u8 70, .int .u8 1] 5)
  simpa using this
set_option maxRecDepth 100000 in
set_option maxHeartbeats 6400000 in
theorem refEncode_any {w : World} {av : Value} {f : List (List Sp)} (ha : PfV w av f) (hK : OkF f) : Calls Try.prog 13 #[.agg #[av]] w (EnQ w f) := by
  obtain ⟨a, acap, rfl, ha1, ha2⟩ := ha.shape
  have HA := hide (fun i l (hl : f[i]? = some l) => ha.row hl)
  have HK := hide hK
  have HB0 := hide (box1 w (.slice a f.length acap) 24)
  unfold maxLen at ha2
  clear ha hK
  obtain ⟨L, hL⟩ : ∃ L, Hid (f.length = L) := ⟨_, hide rfl⟩
  have HER : Hid (∀ (E : Int) (w' : World), E ≠ 0 → ckE f = E → Below w.heap.size w w' → EnQ w f (.returned (.tuple #[.slice none 0 0, .int .i64 E])) w') := fun E w' h1 h2 b => .inl ⟨by rw [h2]; exact h1, by rw [h2], b⟩
  by_cases hlong : 128 < f.length
  · have HE : Hid (ckE f = 5) := ckE_long (.inl hlong)
    rw [unhide hL] at hlong ha1 HB0 ⊢
    have d0 : (128 : Int) < (L : Int) := by omega
    go_enter Try.func13, Try.ntmps13
    go_wp2_with fail
    go_ret2
    exact unhide HER 5 _ (by decide) (unhide HE) (unhide HB0)
  · have HL0 := hide hlong
    rw [unhide hL] at hlong ha1 HB0 ⊢
    have d0 : ¬ (128 : Int) < (L : Int) := by omega
    go_enter Try.func13, Try.ntmps13
    go_wp2_with fail
    go_loopg [4] L (fun gg t4 wr => ∃ (i : Nat), Hid (i + gg = L) ∧ t4 = .int .i64 (i : Int) ∧ Hid (IsW wr (w.alloc (.cells #[.slice a L acap] 24)) ∧ ∀ j l, j < i → f[j]? = some l → l.length ≤ 2000))
    case atStart => exact ⟨0, by unfold Hid; omega, rfl, rfl, fun j l hj => by omega⟩
    case round =>
      obtain ⟨i, hi, rfl, hW⟩ := hrel
      obtain ⟨e1, hle⟩ := unhide hW
      unfold IsW at e1
      subst e1
      have HLE := hide hle
      clear hle hW
      by_cases hlt : i < L
      · obtain ⟨p, hp⟩ : ∃ p, f[i]? = some p := ⟨_, List.getElem?_eq_getElem (by rw [unhide hL]; exact hlt)⟩
        obtain ⟨ab, ao, pa, pc, ea, ha4, ca, _, ha5, ha6⟩ := unhide HA i p hp
        subst ea
        have HP := hide hp
        obtain ⟨P, hP⟩ : ∃ P, Hid (p.length = P) := ⟨_, hide rfl⟩
        rw [unhide hP] at ca ha5
        have i0 : (0 : Int) ≤ (i : Int) := by omega
        have i1 : (i : Int) < (L : Int) := by omega
        have hab : ab < w.heap.size := ha4
        have hab1 : ab < w.heap.size + 1 := by omega
        clear hp
        by_cases hlp : 2000 < P
        · have HE : Hid (ckE f = 5) := ckE_long (.inr ⟨p, List.mem_of_getElem? (unhide HP), by rw [unhide hP]; exact hlp⟩)
          have d1 : (2000 : Int) < (P : Int) := by omega
          go_wp2_with fail
          go_ret2
          exact unhide HER 5 _ (by decide) (unhide HE) (unhide HB0)
        · have d1 : ¬ (2000 : Int) < (P : Int) := by omega
          have HN : Hid (IsW (w.alloc (.cells #[.slice (some ⟨ab, ao, none⟩) L acap] 24)) (w.alloc (.cells #[.slice (some ⟨ab, ao, none⟩) L acap] 24)) ∧ ∀ j l, j < i + 1 → f[j]? = some l → l.length ≤ 2000) := ⟨rfl, fun j l hj hl => by
            by_cases e : j = i
            · subst e; rw [unhide HP] at hl; cases hl; rw [unhide hP]; omega
            · exact unhide HLE j l (by omega) hl⟩
          go_wp2_with fail
          go_roundg (gk - 1)
          case measure => have := unhide hi; omega
          case rel => exact ⟨i + 1, by have := unhide hi; unfold Hid; omega, by go_num, HN⟩
      · have hiL : i = L := by have := unhide hi; omega
        subst hiL
        have HL2 : Hid (∀ l ∈ f, l.length ≤ 2000) := fun l hl => by
          obtain ⟨j, hj, rfl⟩ := List.getElem_of_mem hl
          exact unhide HLE j _ (by rw [← unhide hL]; exact hj) (List.getElem?_eq_getElem hj)
        have HNL : Hid (¬ LongF f) := by
          rintro (h | ⟨l, hl, h⟩)
          · exact unhide HL0 h
          · have := unhide HL2 l hl; omega
        have HS0 := hide (RS.start w (.slice a i acap))
        have HC0 := hide (putUint_any (w.heap.size + 1) (.slice (some ⟨w.heap.size + 1, 0, none⟩) 4 4) sgn4 i _ (unhide HS0).own (by simp) (by simp [sgn4]) (by omega))
        have ew : IntKind.u64.wrap (i : Int) = (i : Int) := by rw [IntKind.wrap_u64]; omega
        clear HLE HL0
        go_wp2_with fail
        refine (unhide HC0).mono ?_
        rintro e w1 ⟨l1, rfl, R1⟩
        have HS1 : Hid (RS w (.slice a i acap) l1 (sgn4 ++ Wm.uform 9 i ++ (f.take 0).flatMap encL) w1) := by
          have := (unhide HS0).step R1
          unfold Hid
          simpa using this
        clear HC0 R1 HS0 ew
        go_wp2_with fail
        go_loopg [5, 6] i (fun gg t5 t6 wr => ∃ (n : Nat) (l : Value), Hid (n + gg = i) ∧ t5 = l ∧ t6 = .int .i64 (n : Int) ∧ Hid (RS w (.slice a i acap) l (sgn4 ++ Wm.uform 9 i ++ (f.take n).flatMap encL) wr ∧ ∀ j l, j < n → f[j]? = some l → ∀ s ∈ l, tkB s = true))
        case atStart => exact ⟨0, l1, by unfold Hid; omega, rfl, rfl, unhide HS1, fun j l hj => by omega⟩
        case round =>
          clear HS1
          obtain ⟨n, l, hn, hl0, rfl, hS⟩ := hrel
          have hl1 := hl0.symm
          subst hl1
          have HBI : Hid ((sgn4 ++ Wm.uform 9 i ++ (f.take n).flatMap encL).length ≤ 11000000) := by
            have h1 := encL_all (f.take n) (fun l hl => unhide HL2 l (List.mem_of_mem_take hl))
            have h2 := uform_le i
            have h3 : (f.take n).length ≤ 128 := by rw [List.length_take, unhide hL]; omega
            simp only [List.length_append, sgn4, List.length_cons, List.length_nil, Hid]
            omega
          obtain ⟨bw, q0, z0⟩ := (unhide hS).1.out
          by_cases hlt2 : n < i
          · obtain ⟨p0, hp0⟩ : ∃ p, f[n]? = some p := ⟨_, List.getElem?_eq_getElem (by rw [unhide hL]; exact hlt2)⟩
            obtain ⟨ab, ao, pa, pc, ea, ha4, ca, ra, ha5, ha6⟩ := unhide HA n p0 hp0
            subst ea
            have HP := hide hp0
            have HR := hide ra
            have HCA := hide ca
            obtain ⟨N, hN⟩ : ∃ N, Hid (p0.length = N) := ⟨_, hide rfl⟩
            have hNl : N ≤ 2000 := by rw [← unhide hN]; exact unhide HL2 p0 (List.mem_of_getElem? hp0)
            rw [unhide hN] at ca ha5 HCA
            have k0 : wr.cell? ⟨ab, ao + n, none⟩ = _ := (bw.cell (p := ⟨ab, ao + n, none⟩) ha4).trans ca
            have hab := Nat.lt_of_lt_of_le ha4 bw.size
            have i0 : (0 : Int) ≤ (n : Int) := by omega
            have i1 : (n : Int) < (i : Int) := by omega
            unfold maxLen at ha6
            obtain ⟨bs0, hbs0⟩ : ∃ b, Hid (sgn4 ++ Wm.uform 9 i ++ (f.take n).flatMap encL = b) := ⟨_, hide rfl⟩
            rw [unhide hbs0] at hS HBI
            have hsz : w.heap.size + 1 ≤ wr.heap.size := by omega
            have HC := hide (putUint_any (w.heap.size + 1) l bs0 N wr (unhide hS).1.own hsz (by have := unhide HBI; omega) (by omega))
            have ew : IntKind.u64.wrap (N : Int) = (N : Int) := by rw [IntKind.wrap_u64]; omega
            obtain ⟨G0, hG0⟩ : ∃ G0 : Nat, Hid (G0 = gk) := ⟨_, hide rfl⟩
            clear hp0 ca ra bw hl0
            go_wp2_with fail
            refine (unhide HC).mono ?_
            rintro e w2 ⟨l2, rfl, R2⟩
            have HS2 : Hid (RS w (.slice (some ⟨ab, ao, none⟩) i acap) l2 (bs0 ++ Wm.uform 9 N ++ (p0.take 0).flatMap encS) w2) := by
              have := (unhide hS).1.step R2
              unfold Hid
              simpa using this
            have HT9 := hide (unhide hS).2
            clear HC R2 hS q0 z0 k0 hab ew hsz
            go_wp2_with fail
            go_loopg [5, 7] N (fun gg t5 t7 wr => ∃ (j : Nat) (l : Value), Hid (j + gg = N) ∧ t5 = l ∧ t7 = .int .i64 (j : Int) ∧ Hid (RS w (.slice (some ⟨ab, ao, none⟩) i acap) l (bs0 ++ Wm.uform 9 N ++ (p0.take j).flatMap encS) wr ∧ ∀ k s, k < j → p0[k]? = some s → tkB s = true))
            case atStart => exact ⟨0, l2, by unfold Hid; omega, rfl, rfl, unhide HS2, fun j l hj => by omega⟩
            case round =>
              clear HS2
              obtain ⟨j, l, hj, hl0, rfl, hS⟩ := hrel
              have hl1 := hl0.symm
              subst hl1
              obtain ⟨bw, q0, z0⟩ := (unhide hS).1.out
              have k0 : wr.cell? ⟨ab, ao + n, none⟩ = _ := (bw.cell (p := ⟨ab, ao + n, none⟩) ha4).trans (unhide HCA)
              have hab := Nat.lt_of_lt_of_le ha4 bw.size
              clear hl0
              by_cases hjt : j < N
              · obtain ⟨x, hx⟩ : ∃ x, p0[j]? = some x := ⟨_, List.getElem?_eq_getElem (by rw [unhide hN]; exact hjt)⟩
                obtain ⟨xb, xo, ex, hx4, c0, c1, c2, c3⟩ := (unhide HR).spot hx
                subst ex
                have HCS : Hid (∀ W, Below wr.heap.size wr W → W.cell? ⟨xb, xo + j * 4, none⟩ = some (.int .i64 x.c) ∧ W.cell? ⟨xb, xo + j * 4 + 1, none⟩ = some (.int .u16 x.a) ∧ W.cell? ⟨xb, xo + j * 4 + 2, none⟩ = some (.int .u16 x.b) ∧ W.cell? ⟨xb, xo + j * 4 + 3, none⟩ = some (.int .i64 x.k) ∧ xb < W.heap.size ∧ W.cell? ⟨ab, ao + n, none⟩ = some (.slice (some ⟨xb, xo, none⟩) N pc) ∧ ab < W.heap.size) := fun W hW => by
                  have bl := bl_past bw hW
                  exact ⟨(bl.cell (p := ⟨xb, xo + j * 4, none⟩) hx4).trans c0, (bl.cell (p := ⟨xb, xo + j * 4 + 1, none⟩) hx4).trans c1, (bl.cell (p := ⟨xb, xo + j * 4 + 2, none⟩) hx4).trans c2, (bl.cell (p := ⟨xb, xo + j * 4 + 3, none⟩) hx4).trans c3, Nat.lt_of_lt_of_le hx4 bl.size, (bl.cell (p := ⟨ab, ao + n, none⟩) ha4).trans (unhide HCA), Nat.lt_of_lt_of_le ha4 bl.size⟩
                have j0 : (0 : Int) ≤ (j : Int) := by omega
                have j1 : (j : Int) < (N : Int) := by omega
                have HXX := hide hx
                have HMEM : Hid (p0 ∈ f ∧ x ∈ p0) := ⟨List.mem_of_getElem? (unhide HP), List.mem_of_getElem? hx⟩
                have hok := unhide HK p0 (List.mem_of_getElem? (unhide HP)) x (List.mem_of_getElem? hx)
                have HTK := hide (fun W => taken_any W x)
                have HLB : Hid ((bs0 ++ Wm.uform 9 N ++ (p0.take j).flatMap encS).length + 64 ≤ 140737488355328) := by
                  have h1 := encS_all (p0.take j)
                  have h2 := uform_le N
                  have h3 : (p0.take j).length ≤ 2000 := by rw [List.length_take]; omega
                  have h4 := unhide HBI
                  simp only [List.length_append, Hid]
                  omega
                have HXE : Hid (bs0 ++ Wm.uform 9 N ++ (p0.take j).flatMap encS ++ encS x = bs0 ++ Wm.uform 9 N ++ (p0.take (j + 1)).flatMap encS) := by
                  unfold Hid
                  rw [take_push hx, List.flatMap_append]
                  simp
                obtain ⟨bs1, hbs1⟩ : ∃ b, Hid (bs0 ++ Wm.uform 9 N ++ (p0.take j).flatMap encS = b) := ⟨_, hide rfl⟩
                rw [unhide hbs1] at hS HLB HXE
                have HPU := hide (fun (W : World) (vv : Value) (hO : W.ownsRow (w.heap.size + 1) 5 1 vv bs1.length (bs1.map By)) (hs : w.heap.size + 1 ≤ W.heap.size) (ht : tkB x = true) => putS_any (w.heap.size + 1) vv bs1 x W hO hs (unhide HLB) hok ht)
                obtain ⟨xe, hxe⟩ : ∃ b, Hid (encS x = b) := ⟨_, hide rfl⟩
                rw [unhide hxe] at HPU HXE
                obtain ⟨tb, htb⟩ : ∃ b, Hid (tkB x = b) := ⟨_, hide rfl⟩
                rw [unhide htb] at HTK HPU
                obtain ⟨s0, s1, s2, s3, sz, t0, tz⟩ := unhide HCS wr (Below.refl _ _)
                obtain ⟨x0, x1, x2, x3⟩ := x
                unfold spV at HTK HPU
                simp only at HTK HPU s0 s1 s2 s3
                clear bw c0 c1 c2 c3 hx hok k0 hab
                go_wp2_with fail
                refine (unhide HTK _).mono ?_
                rintro e w3 ⟨rfl, b3⟩
                have HB3 := hide b3
                have HS3 := hide ((unhide hS).1.on b3)
                obtain ⟨bw3, q0', z0'⟩ := (unhide HS3).out
                clear b3 q0 z0 s0 s1 s2 s3 sz t0 tz
                cases tb with
                | true =>
                  obtain ⟨s0, s1, s2, s3, sz, t0, tz⟩ := unhide HCS w3 (unhide HB3)
                  (try simp only at s0 s1 s2 s3)
                  have HC4 := hide (unhide HPU w3 l (unhide HS3).own (by omega) rfl)
                  have HT3 := hide (unhide hS).2
                  clear bw3 hS HTK HPU
                  go_wp2_with fail
                  refine (unhide HC4).mono ?_
                  rintro e w4 ⟨l4, rfl, R4⟩
                  have HN : Hid (RS w (.slice (some ⟨ab, ao, none⟩) i acap) l4 (bs0 ++ Wm.uform 9 N ++ (p0.take (j + 1)).flatMap encS) w4 ∧ ∀ k s, k < j + 1 → p0[k]? = some s → tkB s = true) := ⟨by rw [← unhide HXE]; exact (unhide HS3).step R4, fun k s hk hs => by
                    by_cases e : k = j
                    · subst e; rw [unhide HXX] at hs; cases hs; exact unhide htb
                    · exact unhide HT3 k s (by omega) hs⟩
                  clear R4 HC4 s0 s1 s2 s3 sz t0 tz q0' z0' HCS HS3
                  go_wp2_with fail
                  go_roundg (gk - 1)
                  case measure => have := unhide hj; omega
                  case rel => exact ⟨j + 1, l4, by have := unhide hj; unfold Hid; omega, rfl, by go_num, HN⟩
                | false =>
                  have HE : Hid (ckE f = 1) := ckE_bad (unhide HNL) ⟨p0, (unhide HMEM).1, _, (unhide HMEM).2, unhide htb⟩
                  have HBW := hide bw3
                  clear bw3 hS HTK HPU HCS
                  go_wp2_with fail
                  go_ret2
                  exact unhide HER 1 _ (by decide) (unhide HE) (unhide HBW)
              · have hjN : j = N := by have := unhide hj; omega
                subst hjN
                have HN : Hid (RS w (.slice (some ⟨ab, ao, none⟩) i acap) l (sgn4 ++ Wm.uform 9 i ++ (f.take (n + 1)).flatMap encL) wr ∧ ∀ k l, k < n + 1 → f[k]? = some l → ∀ s ∈ l, tkB s = true) := by
                  refine ⟨?_, fun k l hk hl => ?_⟩
                  · have q := (unhide hS).1
                    rw [List.take_of_length_le (by rw [unhide hN]; exact Nat.le_refl _)] at q
                    rw [take_push (unhide HP), List.flatMap_append, ← List.append_assoc, unhide hbs0]
                    have e : [p0].flatMap encL = Wm.uform 9 j ++ p0.flatMap encS := by simp [encL, unhide hN]
                    rw [e, ← List.append_assoc]
                    exact q
                  · by_cases e : k = n
                    · subst e
                      rw [unhide HP] at hl
                      cases hl
                      intro s hs
                      obtain ⟨q, hq, rfl⟩ := List.getElem_of_mem hs
                      exact (unhide hS).2 q _ (by rw [← unhide hN]; exact hq) (List.getElem?_eq_getElem hq)
                    · exact unhide HT9 k l (by omega) hl
                clear hS bw
                go_wp2_with fail
                go_roundg (G0 - 1)
                case measure => have h1 := unhide hG0; have h2 := unhide hn; omega
                case rel => exact ⟨n + 1, l, by have h1 := unhide hG0; have h2 := unhide hn; unfold Hid; omega, rfl, by go_num, HN⟩
          · have hni : n = i := by have := unhide hn; omega
            subst hni
            have HE : Hid (ckE f = 0) := ckE_ok (unhide HNL) (by
              rintro ⟨l, hl, s, hs, e⟩
              obtain ⟨j, hj, rfl⟩ := List.getElem_of_mem hl
              have := (unhide hS).2 j _ (by rw [← unhide hL]; exact hj) (List.getElem?_eq_getElem hj) s hs
              rw [this] at e; cases e)
            have HEN : Hid (encP f = sgn4 ++ Wm.uform 9 n ++ f.flatMap encL) := by unfold Hid encP; rw [unhide hL]
            have HF : Hid (EnQ w f (.returned (.tuple #[l, .int .i64 0])) wr) := by
              have q := (unhide hS).1
              rw [List.take_of_length_le (by rw [unhide hL]; exact Nat.le_refl _), ← unhide HEN] at q
              refine .inr ⟨unhide HE, l, rfl, ?_, q.out.1⟩
              obtain ⟨h1, h2⟩ := q.own
              refine ⟨h1, ?_⟩
              rcases h2 with h2 | ⟨g, cap, cur, q1, q2, q3⟩
              · exact .inl h2
              · exact .inr ⟨g, cap, cur, q1, by omega, q3⟩
            clear hS bw HBI hl0
            go_wp2_with fail
            go_ret2
            exact unhide HF
end Go.Proofs.Ytaldacjeeccbhaa
