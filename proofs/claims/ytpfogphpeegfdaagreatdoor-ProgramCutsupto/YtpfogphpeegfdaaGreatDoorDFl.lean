/-
  readList of functions.
-/
import Derived.Test.YtpfogphpeegfdaaGreatDoorDFn
namespace Go.Proofs.YtpfogphpeegfdaaGreatDoor
open Go.RowKit
set_option linter.unusedVariables false
set_option linter.unusedSimpArgs false

theorem FnW.fr {S : Nat → Prop} {w0 w w' : World} {f : Fc} {x : Fv} (h : FnW w0 w f x) (k : Fr S w w') (hn : ∀ b, (x.cv.ownBlock = some b ∨ x.hv.ownBlock = some b) → ¬ S b) : FnW w0 w' f x :=
  ⟨h.1, h.2.1, h.2.2.1, h.2.2.2.1.fr k (fun b hb => hn b (.inl hb)), h.2.2.2.2.1.fr k (fun b hb => hn b (.inr hb)), h.2.2.2.2.2⟩
theorem FnW.lt {w0 w : World} {f : Fc} {x : Fv} (h : FnW w0 w f x) {b : Nat} (hb : x.cv.ownBlock = some b ∨ x.hv.ownBlock = some b) : b < w.heap.size := by
  rcases hb with hb | hb
  · exact h.2.2.2.1.lt b hb
  · exact h.2.2.2.2.1.lt b hb
theorem FnW.low {w0 w1 w : World} {f : Fc} {x : Fv} (h : FnW w1 w f x) (hs : w0.heap.size ≤ w1.heap.size) : FnW w0 w f x := ⟨h.1, h.2.1, h.2.2.1, h.2.2.2.1, h.2.2.2.2.1, fun k hk => Nat.le_trans hs (h.2.2.2.2.2 k hk)⟩
/-- Functions that were read. -/
structure FL (w : World) (fs : List Fc) (xs : List Fv) (lv : Value) (wr : World) : Prop where
  ro : Ro wr 5 lv xs.length (flt enF xs)
  lo : ∀ k, lv.ownBlock = some k → w.heap.size ≤ k
  ln : xs.length = fs.length
  el : ∀ (i : Nat) (f : Fc) (x : Fv), fs[i]? = some f → xs[i]? = some x → FnW w wr f x ∧ ∀ k, (x.cv.ownBlock = some k ∨ x.hv.ownBlock = some k) → lv.ownBlock ≠ some k
theorem FL.fr {S : Nat → Prop} {w wr w' : World} {fs : List Fc} {xs : List Fv} {lv : Value} (h : FL w fs xs lv wr) (f : Fr S wr w') (hn : ∀ k, w.heap.size ≤ k → ¬ S k) : FL w fs xs lv w' :=
  ⟨h.ro.fr f (fun k hk => hn k (h.lo k hk)), h.lo, h.ln, fun i g x hg hx => ⟨(h.el i g x hg hx).1.fr f (fun b hb => hn b ((h.el i g x hg hx).1.2.2.2.2.2 b hb)), (h.el i g x hg hx).2⟩⟩
theorem flsnoc {T : Type} {l : List T} {t y : T} {k : Nat} (hy : (l ++ [t])[k]? = some y) : l[k]? = some y ∨ (k = l.length ∧ y = t) := by
  by_cases q : k < l.length
  · rw [List.getElem?_append_left q] at hy; exact .inl hy
  · rw [List.getElem?_append_right (by omega)] at hy
    cases e : k - l.length with
    | zero => rw [e] at hy; exact .inr ⟨by omega, by simpa using hy.symm⟩
    | succ q => rw [e] at hy; simp at hy
theorem FL.push {w wr X w2 : World} {fs : List Fc} {xs : List Fv} {lv v' : Value} {f : Fc} {x : Fv} {o p : Obj} {m : Nat} (h : FL w fs xs lv X) (hx : FnW wr X f x) (hw : w.heap.size ≤ wr.heap.size) (hlw : ∀ k, lv.ownBlock = some k → k < wr.heap.size)
    (hr : Ro w2 5 v' m (flt enF xs ++ enF x)) (hm : m = xs.length + 1) (hg : ((X.alloc o).alloc p).grownBy w2 lv.ownBlock) (hat : v'.ownBlock = lv.ownBlock ∨ v'.ownBlock = some (X.heap.size + 2)) (hX : wr.heap.size ≤ X.heap.size) : FL w (fs ++ [f]) (xs ++ [x]) v' w2 := by
  subst hm
  have g : Fr (fun k => lv.ownBlock = some k) X w2 := (((Fr.refl _ X).alloc o).alloc p).grown hg (fun k e => .inr e)
  refine ⟨by rw [List.length_append, flt_append, flt_one]; exact hr, fun k hk => ?_, by simp [h.ln], fun i f' x' hf hx' => ?_⟩
  · rcases hat with q | q
    · exact h.lo k (q ▸ hk)
    · rw [q] at hk; cases hk; omega
  · have key : FnW w X f' x' ∧ ∀ k, (x'.cv.ownBlock = some k ∨ x'.hv.ownBlock = some k) → lv.ownBlock ≠ some k := by
      rcases flsnoc hf with q | ⟨q1, q2⟩
      · have hi := (List.getElem?_eq_some_iff.1 q).1
        rcases flsnoc hx' with p | ⟨p1, _⟩
        · exact h.el i f' x' q p
        · have := h.ln; omega
      · rcases flsnoc hx' with p | ⟨_, p2⟩
        · have hi := (List.getElem?_eq_some_iff.1 p).1; have := h.ln; omega
        · subst q2; subst p2
          exact ⟨hx.low hw, fun k hk e => by have := hx.2.2.2.2.2 k hk; have := hlw k e; omega⟩
    refine ⟨key.1.fr g (fun b hb e => key.2 b hb e), fun k hk e => ?_⟩
    rcases hat with q | q
    · exact key.2 k hk (q ▸ e)
    · have := key.1.lt hk
      rw [q] at e; cases e; omega
theorem Tryz.info54 : (Tryz.prog.info? 54).map (fun i => (i.zero, i.size, i.bytes)) = some (some (.agg #[.string ByteArray.empty, .int .i64 0, .int .i64 0, .slice none 0 0, .slice none 0 0]), 5, 80) := by kernel_rfl
theorem wpList_appFn {w : World} {ops : Array Oper} {rest : List Oper} {o : Oper} {a : Act} {Q : Exit → Act → World → Prop}
    (hg : o.guard = none) (s x : Operand) (hop : o.op = Op.call { callee := Callee.builtin Builtin.append, args := #[s, x], argTypes := #[25, 25] })
    (v : Value) (n : Nat) (l : List Value) (hs : a.eval s = v) (hr : Ro w 5 v n l) (ad : Addr) (c : Nat) (nm : ByteArray) (pa lo : Int) (ca ha : Option Addr) (cn cc hn hc : Nat) (hx : a.eval x = .slice (some ad) 1 c) (hcl : ∀ j u, (enF ⟨nm, pa, lo, .slice ca cn cc, .slice ha hn hc⟩)[j]? = some u → w.cell? (ad.add j) = some u)
    (hN : n < 1000000000)
    (hK : ∀ v' w', Ro w' 5 v' (n + 1) (l ++ enF ⟨nm, pa, lo, .slice ca cn cc, .slice ha hn hc⟩) → w.grownBy w' v.ownBlock → (v'.ownBlock = v.ownBlock ∨ v'.ownBlock = some w.heap.size) → wpList Tryz.prog ops Q rest (a.put o.dst v') w') :
    wpList Tryz.prog ops Q (o :: rest) a w := by
  obtain ⟨i0, hi0, hz0, hz1, hz2⟩ := info_parts Tryz.info54
  exact wpList_app hg s x 25 hop 54 i0 _ 5 80 Tryz.underlying25 hi0 hz0 hz1 hz2 rfl (by decide) v n l hs hr ad 1 c (enF ⟨nm, pa, lo, .slice ca cn cc, .slice ha hn hc⟩) hx rfl hcl (by intro u hu; simp only [enF, List.mem_cons, List.not_mem_nil, or_false] at hu; rcases hu with rfl | rfl | rfl | rfl | rfl <;> rfl) (by omega) (by unfold maxLen; omega) (by omega) hK

set_option maxRecDepth 100000 in
set_option maxHeartbeats 6400000 in
theorem rdLF_any {w : World} {r rb : Nat} {s : Sr} (h : RS w r rb s) (hrb : rb < w.heap.size) (most : Int) (hm : most ≤ 100000) : Calls Tryz.prog 43 #[.pointer (some ⟨r, 0, none⟩), .int .i64 most, .func (Fn.func 44) #[] #[]] w fun e w' => ∃ la ln lc, RQ r rb w (.tuple #[.slice la ln lc, .int .i64 (rdL rdF most s).2.1]) (rdL rdF most s).2.2 e w' ∧ ((rdL rdF most s).2.1 = 0 → ∃ xs, FL w (rdL rdF most s).1 xs (.slice la ln lc) w') := by
  obtain ⟨z, hz⟩ : ∃ z, Hid (rdL rdF most s = z) := ⟨_, rfl⟩
  rw [unhide hz]
  unfold rdL at hz
  have H1 := hide (cnt_any h most (by omega))
  have hle := cnt_le most s
  generalize hcn : cnt most s = a at *
  obtain ⟨n, s1⟩ := a
  simp only at hz H1 hle
  have hnb : n ≤ 100000 := by omega
  have hr := h.lt
  have HRB := hide hrb
  have HRL := hide hr
  clear hcn h hrb hle
  go_enter Tryz.func43, Tryz.ntmps43
  go_wp2_with fail
  refine (unhide H1).mono ?_
  rintro e W1 ⟨rfl, hs1, hf1⟩
  have HS1 := hide hs1
  have HF1 := hide hf1
  have HG1 : Hid (FL w ([] : List Fc) [] (.slice none 0 0) W1) := ⟨by simpa [flt] using Ro.nil _ _, by simp [Value.ownBlock], rfl, fun i f x hf => by simp at hf⟩
  clear hs1 hf1 H1
  go_wp2_with fail
  go_loopg [8, 14] n (fun gg t8 t14 wr => ∃ (i : Nat) (acc : List Fc) (xs : List Fv) (s : Sr), Hid (i + gg = n) ∧ t14 = .int .i64 (i : Int) ∧ Hid (xs.length = i) ∧ Hid (lp rdF gg acc s = z) ∧ Hid (FL w acc xs t8 wr) ∧ Hid (RS wr r rb s) ∧ Hid (RFr r w wr))
  case atStart => exact ⟨0, [], [], s1, by unfold Hid; omega, rfl, rfl, hz, HG1, HS1, HF1⟩
  case round =>
    obtain ⟨i, acc, xs, s, hi, rfl, hal, hl, hG, hS, hF⟩ := hrel
    by_cases hlt : i < n
    · obtain ⟨g, rfl⟩ : ∃ g, gk = g + 1 := ⟨gk - 1, by have := unhide hi; omega⟩
      have hl2 := unhide hl
      rw [lp] at hl2
      have hwr : Hid (w.heap.size ≤ wr.heap.size) := (unhide hF).size
      have HH := hide (rdF_any (unhide hS) (by have := unhide HRB; have := unhide hwr; omega))
      obtain ⟨q, hq⟩ : ∃ q, rdF s = q := ⟨_, rfl⟩
      rw [hq] at hl2 HH
      obtain ⟨f, er, s2⟩ := q
      simp only at hl2 HH
      have HL2 := hide hl2
      have i2 : (i : Int) < (n : Int) := by omega
      clear hl2 hq
      go_wp2_with fail
      refine (unhide HH).mono ?_
      rintro e X ⟨nm, pa, lo, ca, cn, cc, ha, hn, hc, ⟨rfl, hs, hf⟩, hfw⟩
      have HS2 : Hid (RS (X.alloc (.cells #[.string nm, .int .i64 pa, .int .i64 lo, .slice ca cn cc, .slice ha hn hc] 54)) r rb s2) := hs.fr (S := fun _ => False) ((Fr.refl _ X).alloc _) (fun e => e) (fun e => e)
      have HF2 : Hid (RFr r w (X.alloc (.cells #[.string nm, .int .i64 pa, .int .i64 lo, .slice ca cn cc, .slice ha hn hc] 54))) := ((unhide hF).trans hf).alloc _
      by_cases he : er = 0
      · have HL3 : Hid (lp rdF g (acc ++ [f]) s2 = z) := by
          have := unhide HL2
          rw [if_neg (by simp [he])] at this
          exact this
        have hGX := (unhide hG).fr hf (fun k hk q => by have := unhide HRL; omega)
        have HGX := hide hGX
        have HFW := hide (hfw he)
        have HLW : Hid (∀ k, u8.ownBlock = some k → k < wr.heap.size) := (unhide hG).ro.lt
        have HGx : Hid (Ro ((X.alloc (.cells #[.string nm, .int .i64 pa, .int .i64 lo, .slice ca cn cc, .slice ha hn hc] 54)).alloc (.cells #[.string nm, .int .i64 pa, .int .i64 lo, .slice ca cn cc, .slice ha hn hc] 54)) 5 u8 i (flt enF xs)) := by
          have h5 := hGX.ro.fr (S := fun _ => False) (((Fr.refl _ X).alloc (.cells #[.string nm, .int .i64 pa, .int .i64 lo, .slice ca cn cc, .slice ha hn hc] 54)).alloc (.cells #[.string nm, .int .i64 pa, .int .i64 lo, .slice ca cn cc, .slice ha hn hc] 54)) (fun _ _ e => e)
          rw [unhide hal] at h5
          exact h5
        have HNC : Hid (∀ j u', (enF ⟨nm, pa, lo, .slice ca cn cc, .slice ha hn hc⟩)[j]? = some u' → ((X.alloc (.cells #[.string nm, .int .i64 pa, .int .i64 lo, .slice ca cn cc, .slice ha hn hc] 54)).alloc (.cells #[.string nm, .int .i64 pa, .int .i64 lo, .slice ca cn cc, .slice ha hn hc] 54)).cell? ((⟨X.heap.size + 1, 0, none⟩ : Addr).add j) = some u') := by
          have := new_cells (X.alloc (.cells #[.string nm, .int .i64 pa, .int .i64 lo, .slice ca cn cc, .slice ha hn hc] 54)) #[.string nm, .int .i64 pa, .int .i64 lo, .slice ca cn cc, .slice ha hn hc] 54
          unfold Hid enF
          simpa using this
        have he1 : (er != 0) = false := by simp [he]
        have hXs : Hid (wr.heap.size ≤ X.heap.size) := hf.size
        clear hs hf he hfw hGX
        go_wp2_with (first | (at_builtin; refine wpList_appFn rfl _ _ rfl u8 i (flt enF xs) rfl (unhide HGx) ⟨X.heap.size + 1, 0, none⟩ 1 nm pa lo ca ha cn cc hn hc rfl (unhide HNC) (by omega) ?_; intro v' w2 hr hg hat))
        have f2 : Fr (fun k => u8.ownBlock = some k) (X.alloc (.cells #[.string nm, .int .i64 pa, .int .i64 lo, .slice ca cn cc, .slice ha hn hc] 54)) w2 := ((Fr.refl _ _).alloc _).grown hg (fun k e => .inr e)
        have nb : ∀ k, u8.ownBlock = some k → w.heap.size ≤ k := (unhide hG).lo
        have HS3 : Hid (RS w2 r rb s2) := (unhide HS2).fr f2 (fun q => by have := nb r q; have := unhide HRL; omega) (fun q => by have := nb rb q; have := unhide HRB; omega)
        have HF3 : Hid (RFr r w w2) := (unhide HF2).stepw f2 (fun k hk q => by have := nb k q; omega)
        have HG3 : Hid (FL w (acc ++ [f]) (xs ++ [⟨nm, pa, lo, .slice ca cn cc, .slice ha hn hc⟩]) v' w2) := (unhide HGX).push (unhide HFW) (unhide hwr) (unhide HLW) hr (by rw [unhide hal]) hg (by simpa using hat) (unhide hXs)
        clear hr hg hat f2 nb
        go_wp2_with fail
        go_roundg g
        case measure => omega
        case rel => exact ⟨i + 1, acc ++ [f], xs ++ [⟨nm, pa, lo, .slice ca cn cc, .slice ha hn hc⟩], s2, by have := unhide hi; unfold Hid; omega, by go_num, by rw [Hid, List.length_append, unhide hal]; rfl, HL3, HG3, HS3, HF3⟩
      · have HZ : Hid (z = ([], er, s2)) := by
          have := unhide HL2
          rw [if_pos he] at this
          exact this.symm
        have he1 : (er != 0) = true := by simp [he]
        have HE := hide he
        clear hs hf he hfw
        go_wp2_with fail
        go_ret2
        rw [unhide HZ]
        exact ⟨_, _, _, ⟨rfl, unhide HS2, unhide HF2⟩, fun q => absurd q (unhide HE)⟩
    · have hg0 : gk = 0 := by have := unhide hi; omega
      subst hg0
      have i2 : ¬ (i : Int) < (n : Int) := by omega
      have HZ : Hid (z = (acc, s.2, s)) := (unhide hl).symm
      have HER := hide (err_any (unhide hS))
      obtain ⟨ga, gc, eg, -, -⟩ := (unhide hG).ro.shape
      subst eg
      go_wp2_with fail
      refine (unhide HER).mono ?_
      rintro e X ⟨rfl, rfl⟩
      go_wp2_with fail
      go_ret2
      rw [unhide HZ]
      exact ⟨_, _, _, ⟨rfl, unhide hS, unhide hF⟩, fun _ => ⟨xs, unhide hG⟩⟩
end Go.Proofs.YtpfogphpeegfdaaGreatDoor
