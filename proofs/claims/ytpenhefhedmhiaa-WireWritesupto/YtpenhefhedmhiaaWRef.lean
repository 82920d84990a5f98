/-
  What a call puts behind a row; a writer's length; Raw.
-/
import Derived.Test.YtpenhefhedmhiaaWPut
namespace Go.Proofs.Ytpenhefhedmhiaa
open Go.RowKit

theorem cell_one_at' (w : World) (x : Value) (t : TypeId) (p : Nat) (hp : w.heap.size = p) : ∀ j u, [x][j]? = some u → (w.alloc (.cells #[x] t)).cell? ((⟨p, 0, none⟩ : Addr).add j) = some u := by
  subst hp
  exact cell_one_new w x t
/-- What a call puts, Raw's bytes too. -/
def rform (kind : Int) (x : Nat) (s : ByteArray) : List Int := if kind = 5 then strI s else pform kind x s
theorem rform_le (kind : Int) (x : Nat) (s : ByteArray) : (rform kind x s).length ≤ 10 + s.size := by
  unfold rform
  split
  · rw [strI_length]; omega
  · exact pform_le kind x s
theorem RG.of_below {base : Nat} {l0 l : Value} {w0 w1 w : World} {bs : List Int} (hb : Below w0.heap.size w0 w1) (h : RG base l0 w1 l bs w) : RG base l0 w0 l bs w := by
  have hs := hb.size
  refine ⟨h.own, ⟨h.fr.os.trans hb.os, h.fr.tape.trans hb.tape, h.fr.output.trans hb.output, Nat.le_trans hs h.fr.size, fun i hi hn => (h.fr.block i (by omega) hn).trans (hb.block i hi)⟩, ?_⟩
  rcases h.at' with q | ⟨b, q, hq⟩
  · exact .inl q
  · exact .inr ⟨b, q, by omega⟩

set_option maxHeartbeats 3200000 in
set_option maxRecDepth 100000 in
theorem putRef_any (base : Nat) (l0 : Value) (bs : List Int) (on kind : Int) (x : Nat) (s : ByteArray) (w : World) (h : w.ownsRow base 5 1 l0 bs.length (bs.map By)) (hbase : base ≤ w.heap.size) (hb : bs.length + 10 + s.size ≤ 140737488355328) (hx : x < 2 ^ 64) :
    Calls Try.prog 16 #[l0, PutV on kind x s] w fun e w' => ∃ l, e = .returned l ∧ RG base l0 w l (bs ++ rform kind x s) w' := by
  obtain ⟨i0, hi0, hz0, hz1, hz2⟩ := info_parts Try.info5
  have hbz : ∀ o, base ≤ (w.alloc o).heap.size := fun o => by simp; omega
  by_cases k0 : kind = 0
  · subst k0
    rw [show rform 0 x s = [((x % 256 : Nat) : Int)] from rfl]
    have hR0 := hide (RG.start (h.alloc (.cells #[.int .i64 on, .int .i64 0, .int .u64 (x : Int), .string s] 29)))
    have hHO : Hid (((w.alloc (.cells #[.int .i64 on, .int .i64 0, .int .u64 (x : Int), .string s] 29))).ownsRow base 5 1 l0 bs.length (bs.map By)) := h.alloc _
    obtain ⟨n, hn⟩ : ∃ n, Hid (bs.length = n) := ⟨_, rfl⟩
    rw [unhide hn] at hHO
    have hnl : n < 140737488355328 := by have := unhide hn; omega
    clear h
    unfold PutV
    go_enter Try.func16, Try.ntmps16
    go_wp2_with (first | (at_builtin; refine wpList_append_own_at _ rfl _ _ 25 rfl base 5 i0 (.int .u8 0) 1 1 Try.underlying25 hi0 hz0 hz1 hz2 rfl (by decide) _ _ _ rfl ((unhide hHO).alloc _) ⟨w.heap.size + 1, 0, none⟩ 1 1 [.int .u8 ((x : Int) % 256)] rfl rfl (cell_one_at' _ _ _ _ (by simp)) (by simp [Value.oneCell']) (by unfold maxLen; omega) (by omega) (by simp; omega) ?_))
    intro v' w2 hown' hgrow hnil hat
    have HN2 : Hid (RG base l0 (w.alloc (.cells #[.int .i64 on, .int .i64 0, .int .u64 (x : Int), .string s] 29)) v' (bs ++ [(x : Int) % 256]) w2) := (unhide hR0).step hown' (by rw [unhide hn]) rfl hgrow (by simpa using hat)
    clear hown' hgrow hnil hat
    go_wp2
    go_ret
    exact ⟨v', rfl, by rw [show (((x % 256 : Nat)) : Int) = (x : Int) % 256 from by omega]; exact (unhide HN2).alloc⟩
  by_cases k1 : kind = 1
  · subst k1
    rw [show rform 1 x s = Wm.uform 9 x from rfl]
    have hC := hide (putUint_any base l0 bs x (w.alloc (.cells #[.int .i64 on, .int .i64 1, .int .u64 (x : Int), .string s] 29)) (h.alloc _) (hbz _) (by omega) hx)
    clear h
    unfold PutV
    go_enter Try.func16, Try.ntmps16
    go_wp2_with fail
    refine (unhide hC).mono ?_
    rintro e w1 ⟨l, rfl, hR⟩
    have HR := hide hR
    clear hR
    go_wp2
    go_ret
    exact ⟨l, rfl, (unhide HR).alloc⟩
  by_cases k2 : kind = 2
  · subst k2
    rw [show rform 2 x s = Wm.uform 9 (foldI (toI64 x)).toNat from rfl]
    have hC := hide (putInt_any base l0 bs (toI64 x) (w.alloc (.cells #[.int .i64 on, .int .i64 2, .int .u64 (x : Int), .string s] 29)) (h.alloc _) (hbz _) (by omega) (toI64_bd x hx).1 (toI64_bd x hx).2)
    clear h
    unfold PutV
    have hw64 := toI64_wrap x hx
    go_enter Try.func16, Try.ntmps16
    go_wp2_with fail
    refine (unhide hC).mono ?_
    rintro e w1 ⟨l, rfl, hR⟩
    have HR := hide hR
    clear hR
    go_wp2
    go_ret
    exact ⟨l, rfl, (unhide HR).alloc⟩
  by_cases k3 : kind = 3
  · subst k3
    rw [show rform 3 x s = wpre x 8 from rfl]
    have hC := hide (putWord_any base l0 bs x (w.alloc (.cells #[.int .i64 on, .int .i64 3, .int .u64 (x : Int), .string s] 29)) (h.alloc _) (hbz _) (by omega))
    clear h
    unfold PutV
    go_enter Try.func16, Try.ntmps16
    go_wp2_with fail
    refine (unhide hC).mono ?_
    rintro e w1 ⟨l, rfl, hR⟩
    have HR := hide hR
    clear hR
    go_wp2
    go_ret
    exact ⟨l, rfl, (unhide HR).alloc⟩
  by_cases k4 : kind = 4
  · subst k4
    rw [show rform 4 x s = Wm.uform 9 s.size ++ strI s from rfl]
    have hC := hide (putText_any base l0 bs s (w.alloc (.cells #[.int .i64 on, .int .i64 4, .int .u64 (x : Int), .string s] 29)) (h.alloc _) (hbz _) (by omega))
    clear h
    unfold PutV
    go_enter Try.func16, Try.ntmps16
    go_wp2_with fail
    refine (unhide hC).mono ?_
    rintro e w1 ⟨l, rfl, hR⟩
    have HR := hide hR
    clear hR
    go_wp2
    go_ret
    exact ⟨l, rfl, (unhide HR).alloc⟩
  by_cases k5 : kind = 5
  · subst k5
    rw [show rform 5 x s = strI s from rfl]
    have hC := hide (bytes_str s (w.alloc (.cells #[.int .i64 on, .int .i64 5, .int .u64 (x : Int), .string s] 29)) (by omega))
    have hOw : Hid ((w.alloc (.cells #[.int .i64 on, .int .i64 5, .int .u64 (x : Int), .string s] 29)).ownsRow base 5 1 l0 bs.length (bs.map By)) := h.alloc _
    have hlI := hide (strI_length s)
    clear h
    unfold PutV
    go_enter Try.func16, Try.ntmps16
    go_wp2_with fail
    refine (unhide hC).mono ?_
    rintro e w1 ⟨lb, rfl, hG⟩
    have hO1 : Hid (w1.ownsRow base 5 1 l0 bs.length (bs.map By)) := own_keepT (unhide hOw) (fun g hg => hG.2.block g ((unhide hOw).lt g hg).2)
    have hP := hide (putBytes_any base l0 lb bs (strI s) w1 (unhide hO1) (Nat.le_trans (hbz _) hG.2.size) (Rd.of_own hG.1) (fun b off n c e q => by
      have h1 := ((unhide hOw).lt b q).2
      have h2 := (hG.1.lt b (by rw [e]; rfl)).1
      omega) (by rw [unhide hlI]; omega))
    have HB := hide hG.2
    clear hG hC
    go_wp2_with fail
    refine (unhide hP).mono ?_
    rintro e w2 ⟨l, rfl, hR⟩
    have HR := hide (RG.of_below (unhide HB) hR)
    clear hR
    go_wp2
    go_ret
    exact ⟨l, rfl, (unhide HR).alloc⟩
  · have hr : rform kind x s = [] := by
      unfold rform pform
      simp [k0, k1, k2, k3, k4, k5]
    rw [hr, List.append_nil]
    have hR0 := hide (RG.start (h.alloc (.cells #[.int .i64 on, .int .i64 kind, .int .u64 (x : Int), .string s] 29)))
    have j0 : (kind == 0) = false := by rw [beq_eq_false_iff_ne]; exact k0
    have j1 : (kind == 1) = false := by rw [beq_eq_false_iff_ne]; exact k1
    have j2 : (kind == 2) = false := by rw [beq_eq_false_iff_ne]; exact k2
    have j3 : (kind == 3) = false := by rw [beq_eq_false_iff_ne]; exact k3
    have j4 : (kind == 4) = false := by rw [beq_eq_false_iff_ne]; exact k4
    have j5 : (kind == 5) = false := by rw [beq_eq_false_iff_ne]; exact k5
    clear h hr
    unfold PutV
    go_enter Try.func16, Try.ntmps16
    go_wp2
    go_ret
    exact ⟨_, rfl, (unhide hR0).alloc⟩

set_option maxRecDepth 100000 in
theorem wlen_any (p : Nat) (v : Value) (bs : List Int) (w : World) (h : Wtr w p v bs) : Calls Try.prog 14 #[.pointer (some ⟨p, 0, none⟩)] w fun e w' => e = .returned (.int .i64 (bs.length : Int)) ∧ w' = w := by
  obtain ⟨a, cap, hv⟩ := row_shape h.own
  have hc := h.cell
  rw [hv] at hc
  obtain ⟨n, hn⟩ : ∃ n, Hid (bs.length = n) := ⟨_, rfl⟩
  rw [unhide hn] at hc ⊢
  clear h hv
  go_enter Try.func14, Try.ntmps14
  go_wp2
  go_ret
  exact ⟨rfl, rfl⟩

set_option maxHeartbeats 3200000 in
set_option maxRecDepth 100000 in
theorem rawCall_any (p : Nat) (v : Value) (bs : List Int) (s : ByteArray) (w : World) (h : Wtr w p v bs) (hb : bs.length + s.size + 64 ≤ 140737488355328) :
    Calls Try.prog 13 #[.pointer (some ⟨p, 0, none⟩), .string s] w fun e w' => e = .returned (.bool true) ∧ ∃ v', Wtr w' p v' (bs ++ strI s) ∧ WStep p w v w' v' := by
  have hlI := hide (strI_length s)
  have hC1 := hide (bytes_str s w (by omega))
  have HW := hide h
  have hpl := hide h.lt
  have hvl := hide h.row_lt
  obtain ⟨N, hN⟩ : ∃ N, Hid (s.size = N) := ⟨_, rfl⟩
  obtain ⟨Y, hY⟩ : ∃ Y, Hid (strI s = Y) := ⟨_, rfl⟩
  rw [unhide hY] at hlI hC1 ⊢
  rw [unhide hN] at hlI hb
  clear h
  go_enter Try.func13, Try.ntmps13
  go_wp2_with fail
  refine (unhide hC1).mono ?_
  rintro e w1 ⟨b, rfl, hG1⟩
  have hC2 := hide (lent_any b Y w1 (Rd.of_own hG1.1) (by rw [unhide hlI]; omega))
  have hOb := hide hG1.1
  have HB1 := hide hG1.2
  clear hC1 hG1
  go_wp2_with fail
  refine (unhide hC2).mono ?_
  rintro e w2 ⟨l, rfl, hG2⟩
  have hlm : (Y ++ marks 64).length = N + 64 := by rw [List.length_append, marks_length, unhide hlI]
  obtain ⟨ba, bc, hbs⟩ := row_shape (unhide hOb)
  rw [unhide hlI] at hbs
  subst hbs
  have hcs := hG2.1
  rw [hlm] at hcs
  obtain ⟨g, cap', cu, hl, hgb, hgh, hnc, hcm, hcs2, htk⟩ : ∃ g cap cu, l = .slice (some ⟨g, 0, none⟩) (N + 64) cap ∧ w1.heap.size ≤ g ∧ w2.heap[g]? = some (.cells cu 5) ∧ N + 64 ≤ cap ∧ cap ≤ maxLen ∧ True ∧ True := by
    rcases hcs.2 with ⟨_, q⟩ | ⟨g, cap, cu, q, q1, q2, q3, q4, _⟩
    · omega
    · exact ⟨g, cap, cu, q, (hcs.lt g (by rw [q]; rfl)).1, q2, q3, q4, trivial, trivial⟩
  have HL2 := hide (Rd.of_own hG2.1)
  have HO2 := hide hG2.1
  have hg2 : Hid (g < w2.heap.size) := (hcs.lt g (by rw [hl]; rfl)).2
  subst hl
  have hB2 := hide ((unhide HB1).trans (hG2.2.mono (unhide HB1).size))
  have hW2 : Hid (Wtr w2 p v bs) := (unhide HW).keep (Fr.of_below (S := fun _ => False) ((unhide hB2))) (fun q => q) (fun _ _ q => q)
  have hbR2 : Hid (Rd w2 (.slice ba N bc) Y) := (Rd.of_own (unhide hOb)).keep (Fr.of_below (S := fun _ => False) hG2.2) (fun _ _ _ _ _ q => q)
  have hC3 := raw_any p v bs ⟨g, 0, none⟩ cap' Y w2 (unhide hW2) (by rw [unhide hlI]; omega) (fun j u hj => by
    obtain ⟨hjl, rfl⟩ := List.getElem?_eq_some_iff.1 hj
    rw [List.length_map] at hjl
    obtain ⟨b2, o2, q, _, hc⟩ := (unhide HL2).at j (by rw [hlm]; rw [unhide hlI] at hjl; omega)
    simp only [Option.some.injEq, Addr.mk.injEq] at q
    obtain ⟨rfl, rfl, _⟩ := q
    rw [addr_add, hc, List.getElem_map, List.getD_eq_getElem?_getD, List.getElem?_append_left hjl, List.getElem?_eq_getElem hjl]
    rfl)
  rw [unhide hlI] at hC3
  have hC3 := hide hC3
  have hNi : (N : Int) ≤ (cap' : Int) := by omega
  have Hlm := hide hlm
  have Hcap := hide hnc
  have Hcm := hide hcm
  have hz12 : Hid (w.heap.size ≤ w1.heap.size) := (unhide HB1).size
  clear hC2 hG2 hcs hgh hcs2 htk hlm hnc
  go_wp2_with fail
  refine (unhide hC3).mono ?_
  rintro e w3 ⟨rfl, v3, hW3, hT3⟩
  have hgF : Hid (¬ Foot p v g) := by
    rintro (q | q)
    · have := unhide hpl; have := unhide hz12; omega
    · have := unhide hvl g q; have := unhide hz12; omega
  have hL3 : Rd w3 (.slice (some ⟨g, 0, none⟩) (N + 64) cap') (Y ++ marks 64) := by
    have h := (unhide HL2).keep hT3.fr (fun b off len cap q => by
      simp only [Value.slice.injEq, Option.some.injEq, Addr.mk.injEq] at q
      rw [← q.1.1]; exact unhide hgF)
    exact h
  have hb3 : Rd w3 (.slice ba N bc) Y := (unhide hbR2).keep hT3.fr (fun b off len cap q => by
    rintro (r | r)
    · have := unhide hpl
      have h2 := ((unhide hOb).lt b (by simp only [Value.slice.injEq] at q; rw [q.1]; rfl)).1
      omega
    · have := unhide hvl b r
      have h2 := ((unhide hOb).lt b (by simp only [Value.slice.injEq] at q; rw [q.1]; rfl)).1
      omega)
  have hC4 := hide (kept_any _ _ Y w3 hL3 hb3 (by rw [unhide hlI]; omega))
  have HW3 := hide hW3
  have HT3 := hide hT3
  have hg3 : Hid (g < w3.heap.size) := Nat.lt_of_lt_of_le (unhide hg2) hT3.fr.size
  have hv3 : Hid (p ≠ g ∧ v3.ownBlock ≠ some g) := by
    refine ⟨fun q => unhide hgF (.inl q.symm), fun q => ?_⟩
    rcases hT3.row with r | r
    · exact unhide hgF (.inr (r.symm.trans q))
    · have := r g q; have := unhide hg2; omega
  have HO3 : Hid (w3.ownsRow w1.heap.size 5 1 (.slice (some ⟨g, 0, none⟩) (N + 64) cap') (Y ++ marks 64).length ((Y ++ marks 64).map By)) := own_keepT (unhide HO2) (fun k hk => hT3.fr.block k ((unhide HO2).lt k hk).2 (by
    simp only [Value.ownBlock, Option.some.injEq] at hk
    rw [← hk]; exact unhide hgF))
  clear hC3 hW3 hT3 hL3 hb3
  go_wp2_with fail
  refine (unhide hC4).mono ?_
  rintro e w4 ⟨rfl, hw4⟩
  subst hw4
  clear hC4
  go_wp2
  go_loopg [8] (N + 64) (fun k s8 wq => ∃ (i : Nat) (xs : List Int), Hid (i + k = N + 64) ∧ s8 = .int .i64 (i : Int) ∧ Hid (xs.length = N + 64) ∧ Hid (wq.ownsRow w1.heap.size 5 1 (.slice (some ⟨g, 0, none⟩) (N + 64) cap') xs.length (xs.map By)) ∧ Hid (Fr (fun k => k = g) w4 wq))
  case atStart => exact ⟨0, Y ++ marks 64, by unfold Hid; omega, rfl, Hlm, HO3, Fr.refl _ _⟩
  case round =>
    obtain ⟨i, xs, hi, rfl, hxs, hO, hF⟩ := hrel
    by_cases hlt : i < N + 64
    · have i1 : (0 : Int) ≤ (i : Int) := by omega
      have i2 : (i : Int) < (N : Int) + 64 := by omega
      have hc1 : wr.cell? ⟨g, i, none⟩ = some (.int .u8 (xs.getD i 0)) := by
        have := (unhide hO).cells (g := g) rfl i (By (xs.getD i 0)) (by rw [List.getElem?_map, List.getElem?_eq_getElem (by rw [unhide hxs]; exact hlt), List.getD_eq_getElem?_getD, List.getElem?_eq_getElem (by rw [unhide hxs]; exact hlt)]; rfl)
        rw [addr_add0] at this
        exact this
      have hf1 : wr.frozen? ⟨g, i, none⟩ = false := by
        rcases (unhide hO).2 with ⟨q, _⟩ | ⟨g2, cap2, cu2, q, _, q2, _⟩
        · cases q
        · simp only [Value.slice.injEq, Option.some.injEq, Addr.mk.injEq] at q
          obtain ⟨⟨rfl, _, _⟩, _, _⟩ := q
          simp only [World.frozen?, q2]; simp
      have hst : ∀ y, Hid ((xs.set i y).length = N + 64 ∧ (wr.setCell ⟨g, i, none⟩ (.int .u8 y)).ownsRow w1.heap.size 5 1 (.slice (some ⟨g, 0, none⟩) (N + 64) cap') (xs.set i y).length ((xs.set i y).map By) ∧ Fr (fun k => k = g) w4 (wr.setCell ⟨g, i, none⟩ (.int .u8 y))) := fun y => ⟨by rw [List.length_set]; exact unhide hxs, by rw [List.length_set]; exact own_store (unhide hO) g i rfl y, (unhide hF).setCell ⟨g, i, none⟩ (.inr rfl) _⟩
      generalize xs.getD i 0 = o1 at *
      go_wp2
      go_roundg (gk - 1)
      case measure => have := unhide hi; omega
      case rel => exact ⟨i + 1, _, by have := unhide hi; unfold Hid; omega, by go_num, (unhide (hst _)).1, (unhide (hst _)).2.1, (unhide (hst _)).2.2⟩
    · have i2 : ¬ (i : Int) < (N : Int) + 64 := by omega
      have hWf : Hid (Wtr wr p v3 (bs ++ Y)) := (unhide HW3).keep (unhide hF) (unhide hv3).1 (fun k hk q => (unhide hv3).2 (by rw [← q]; exact hk))
      have hTf : Hid (WStep p w v wr v3) := by
        have T := (WStep.mk (p := p) (v := v) (v' := v) (Fr.of_below (unhide hB2)) (.inl rfl)).trans (unhide HT3)
        refine ⟨⟨(unhide hF).os.trans T.fr.os, (unhide hF).tape.trans T.fr.tape, (unhide hF).output.trans T.fr.output, Nat.le_trans T.fr.size (unhide hF).size, fun k hk hn => ?_⟩, T.row⟩
        have hs1 := T.fr.size
        have hz := unhide hz12
        exact ((unhide hF).block k (by omega) (by omega)).trans (T.fr.block k hk hn)
      go_wp2
      go_ret
      exact ⟨rfl, v3, unhide hWf, unhide hTf⟩
end Go.Proofs.Ytpenhefhedmhiaa
