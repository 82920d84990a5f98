/-
  readList of constants.
-/
import Derived.Test.YtpfogphpeegfdaaGreatDoorDCn
namespace Go.Proofs.YtpfogphpeegfdaaGreatDoor
open Go.RowKit
set_option linter.unusedVariables false
set_option linter.unusedSimpArgs false
theorem Tryz.info73 : (Tryz.prog.info? 73).map (fun i => (i.zero, i.size, i.bytes)) = some (some (.agg #[.int .i64 0, .int .i64 0, .string ByteArray.empty]), 3, 32) := by kernel_rfl
theorem wpList_appCn {w : World} {ops : Array Oper} {rest : List Oper} {o : Oper} {a : Act} {Q : Exit → Act → World → Prop}
    (hg : o.guard = none) (s x : Operand) (hop : o.op = Op.call { callee := Callee.builtin Builtin.append, args := #[s, x], argTypes := #[24, 24] })
    (v : Value) (n : Nat) (l : List Value) (hs : a.eval s = v) (hr : Ro w 3 v n l) (ad : Addr) (c : Nat) (k : Cn) (hx : a.eval x = .slice (some ad) 1 c) (hc : ∀ j u, (enC k)[j]? = some u → w.cell? (ad.add j) = some u)
    (hN : n < 1000000000)
    (hK : ∀ v' w', Ro w' 3 v' (n + 1) (l ++ enC k) → w.grownBy w' v.ownBlock → (v'.ownBlock = v.ownBlock ∨ v'.ownBlock = some w.heap.size) → wpList Tryz.prog ops Q rest (a.put o.dst v') w') :
    wpList Tryz.prog ops Q (o :: rest) a w := by
  obtain ⟨i0, hi0, hz0, hz1, hz2⟩ := info_parts Tryz.info73
  exact wpList_app hg s x 24 hop 73 i0 _ 3 32 Tryz.underlying24 hi0 hz0 hz1 hz2 rfl (by decide) v n l hs hr ad 1 c (enC k) hx rfl hc (by intro u hu; simp only [enC, List.mem_cons, List.not_mem_nil, or_false] at hu; rcases hu with rfl | rfl | rfl <;> rfl) (by omega) (by unfold maxLen; omega) (by omega) hK

set_option maxRecDepth 100000 in
set_option maxHeartbeats 3200000 in
theorem rdLC_any {w : World} {r rb : Nat} {s : Sr} (h : RS w r rb s) (hrb : rb < w.heap.size) (most : Int) (hm : most ≤ 100000) : Calls Tryz.prog 41 #[.pointer (some ⟨r, 0, none⟩), .int .i64 most, .func (Fn.func 42) #[] #[]] w fun e w' => ∃ la ln lc, RQ r rb w (.tuple #[.slice la ln lc, .int .i64 (rdL rdC most s).2.1]) (rdL rdC most s).2.2 e w' ∧ ((rdL rdC most s).2.1 = 0 → LG w 3 enC (rdL rdC most s).1 (.slice la ln lc) w') := by
  obtain ⟨z, hz⟩ : ∃ z, Hid (rdL rdC most s = z) := ⟨_, rfl⟩
  rw [unhide hz]
  unfold rdL at hz
  have H1 := hide (cnt_any h most (by omega))
  have hle := cnt_le most s
  generalize hcn : cnt most s = a at *
  obtain ⟨n, s1⟩ := a
  simp only at hz H1 hle
  have hn : n ≤ 100000 := by omega
  have hr := h.lt
  have HRB := hide hrb
  have HRL := hide hr
  clear hcn h hrb hle
  go_enter Tryz.func41, Tryz.ntmps41
  go_wp2_with fail
  refine (unhide H1).mono ?_
  rintro e W1 ⟨rfl, hs1, hf1⟩
  have HS1 := hide hs1
  have HF1 := hide hf1
  have HG1 : Hid (LG w 3 enC ([] : List Cn) (.slice none 0 0) W1) := ⟨by simpa [flt] using Ro.nil _ _, by simp [Value.ownBlock]⟩
  clear hs1 hf1 H1
  go_wp2_with fail
  go_loopg [8, 14] n (fun gg t8 t14 wr => ∃ (i : Nat) (acc : List Cn) (s : Sr), Hid (i + gg = n) ∧ t14 = .int .i64 (i : Int) ∧ Hid (acc.length = i) ∧ Hid (lp rdC gg acc s = z) ∧ Hid (LG w 3 enC acc t8 wr) ∧ Hid (RS wr r rb s) ∧ Hid (RFr r w wr))
  case atStart => exact ⟨0, [], s1, by unfold Hid; omega, rfl, rfl, hz, HG1, HS1, HF1⟩
  case round =>
    obtain ⟨i, acc, s, hi, rfl, hal, hl, hG, hS, hF⟩ := hrel
    by_cases hlt : i < n
    · obtain ⟨g, rfl⟩ : ∃ g, gk = g + 1 := ⟨gk - 1, by have := unhide hi; omega⟩
      have hl2 := unhide hl
      rw [lp] at hl2
      have hwr : Hid (w.heap.size ≤ wr.heap.size) := (unhide hF).size
      have HH := hide (rdC_any (unhide hS) (by have := unhide HRB; have := unhide hwr; omega))
      obtain ⟨q, hq⟩ : ∃ q, rdC s = q := ⟨_, rfl⟩
      rw [hq] at hl2 HH
      obtain ⟨⟨h1, h2, h3⟩, er, s2⟩ := q
      simp only at hl2 HH
      have HL2 := hide hl2
      have i2 : (i : Int) < (n : Int) := by omega
      clear hl2 hq
      go_wp2_with fail
      refine (unhide HH).mono ?_
      rintro e X ⟨rfl, hs, hf⟩
      have fx : Fr (fun _ => False) X (X.alloc (.cells #[.int .i64 h1, .int .i64 h2, .string h3] 73)) := (Fr.refl _ X).alloc _
      have HS2 : Hid (RS (X.alloc (.cells #[.int .i64 h1, .int .i64 h2, .string h3] 73)) r rb s2) := hs.fr fx (fun e => e) (fun e => e)
      have HF2 : Hid (RFr r w (X.alloc (.cells #[.int .i64 h1, .int .i64 h2, .string h3] 73))) := ((unhide hF).trans hf).alloc _
      by_cases he : er = 0
      · have HL3 : Hid (lp rdC g (acc ++ [⟨h1, h2, h3⟩]) s2 = z) := by
          have := unhide HL2
          rw [if_neg (by simp [he])] at this
          exact this
        have HGx : Hid (Ro ((X.alloc (.cells #[.int .i64 h1, .int .i64 h2, .string h3] 73)).alloc (.cells #[.int .i64 h1, .int .i64 h2, .string h3] 73)) 3 u8 i (flt enC acc)) := by
          have := (unhide hG).fr (hf.alloc (.cells #[.int .i64 h1, .int .i64 h2, .string h3] 73) |>.alloc (.cells #[.int .i64 h1, .int .i64 h2, .string h3] 73)) (fun k hk q => by have := unhide HRL; omega)
          have h5 := this.1
          rw [unhide hal] at h5
          exact h5
        have HNC : Hid (∀ j u', (enC ⟨h1, h2, h3⟩)[j]? = some u' → ((X.alloc (.cells #[.int .i64 h1, .int .i64 h2, .string h3] 73)).alloc (.cells #[.int .i64 h1, .int .i64 h2, .string h3] 73)).cell? ((⟨X.heap.size + 1, 0, none⟩ : Addr).add j) = some u') := by
          have := new_cells (X.alloc (.cells #[.int .i64 h1, .int .i64 h2, .string h3] 73)) #[.int .i64 h1, .int .i64 h2, .string h3] 73
          unfold Hid enC
          simpa using this
        have he1 : (er != 0) = false := by simp [he]
        have hXs : Hid (wr.heap.size ≤ X.heap.size) := hf.size
        clear hs hf fx he
        go_wp2_with (first | (at_builtin; refine wpList_appCn rfl _ _ rfl u8 i (flt enC acc) rfl (unhide HGx) ⟨X.heap.size + 1, 0, none⟩ 1 ⟨h1, h2, h3⟩ rfl (unhide HNC) (by omega) ?_; intro v' w2 hr hg hat))
        have f2 : Fr (fun k => u8.ownBlock = some k) (X.alloc (.cells #[.int .i64 h1, .int .i64 h2, .string h3] 73)) w2 := ((Fr.refl _ _).alloc _).grown hg (fun k e => .inr e)
        have nb : ∀ k, u8.ownBlock = some k → w.heap.size ≤ k := (unhide hG).2
        have HS3 : Hid (RS w2 r rb s2) := (unhide HS2).fr f2 (fun q => by have := nb r q; have := unhide HRL; omega) (fun q => by have := nb rb q; have := unhide HRB; omega)
        have HF3 : Hid (RFr r w w2) := (unhide HF2).stepw f2 (fun k hk q => by have := nb k q; omega)
        have HG3 : Hid (LG w 3 enC (acc ++ [⟨h1, h2, h3⟩]) v' w2) := (unhide hG).push (unhide hwr) hr (by rw [unhide hal]) (N := ((X.alloc (.cells #[.int .i64 h1, .int .i64 h2, .string h3] 73)).alloc (.cells #[.int .i64 h1, .int .i64 h2, .string h3] 73)).heap.size) (by simp; have := unhide hwr; have := unhide hXs; omega) hat
        clear hr hg hat f2 nb
        go_wp2_with fail
        go_roundg g
        case measure => omega
        case rel => exact ⟨i + 1, acc ++ [⟨h1, h2, h3⟩], s2, by have := unhide hi; unfold Hid; omega, by go_num, by rw [Hid, List.length_append, unhide hal]; rfl, HL3, HG3, HS3, HF3⟩
      · have HZ : Hid (z = ([], er, s2)) := by
          have := unhide HL2
          rw [if_pos he] at this
          exact this.symm
        have he1 : (er != 0) = true := by simp [he]
        have HE := hide he
        clear hs hf fx he
        go_wp2_with fail
        go_ret2
        rw [unhide HZ]
        exact ⟨_, _, _, ⟨rfl, unhide HS2, unhide HF2⟩, fun q => absurd q (unhide HE)⟩
    · have hg0 : gk = 0 := by have := unhide hi; omega
      subst hg0
      have i2 : ¬ (i : Int) < (n : Int) := by omega
      have HZ : Hid (z = (acc, s.2, s)) := (unhide hl).symm
      have HER := hide (err_any (unhide hS))
      obtain ⟨ga, gc, eg, -, -⟩ := (unhide hG).1.shape
      subst eg
      go_wp2_with fail
      refine (unhide HER).mono ?_
      rintro e X ⟨rfl, rfl⟩
      go_wp2_with fail
      go_ret2
      rw [unhide HZ]
      exact ⟨_, _, _, ⟨rfl, unhide hS, unhide hF⟩, fun _ => unhide hG⟩
end Go.Proofs.YtpfogphpeegfdaaGreatDoor
