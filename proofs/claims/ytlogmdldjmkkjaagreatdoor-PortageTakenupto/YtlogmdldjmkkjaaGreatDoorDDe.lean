/-
  program.Decode.
-/
import Derived.Test.YtlogmdldjmkkjaaGreatDoorDFn
import Derived.Test.YtlogmdldjmkkjaaGreatDoorCheck
namespace Go.Proofs.YtlogmdldjmkkjaaGreatDoor
open Go.RowKit
set_option linter.unusedVariables false
set_option linter.unusedSimpArgs false

theorem FnW.fr {S : Nat → Prop} {w0 w w' : World} {f : Fc} {x : Fv} (h : FnW w0 w f x) (k : Fr S w w') (hn : ∀ b, (x.cv.ownBlock = some b ∨ x.hv.ownBlock = some b) → ¬ S b) : FnW w0 w' f x :=
  ⟨h.1, h.2.1, h.2.2.1, h.2.2.2.1.fr k (fun b hb => hn b (.inl hb)), h.2.2.2.2.1.fr k (fun b hb => hn b (.inr hb)), h.2.2.2.2.2⟩
theorem FnW.lt {w0 w : World} {f : Fc} {x : Fv} (h : FnW w0 w f x) {b : Nat} (hb : x.cv.ownBlock = some b ∨ x.hv.ownBlock = some b) : b < w.heap.size := by
  rcases hb with hb | hb
  · exact h.2.2.2.1.lt b hb
  · exact h.2.2.2.2.1.lt b hb
theorem FnW.low {w0 w1 w : World} {f : Fc} {x : Fv} (h : FnW w1 w f x) (hs : w0.heap.size ≤ w1.heap.size) : FnW w0 w f x := ⟨h.1, h.2.1, h.2.2.1, h.2.2.2.1, h.2.2.2.2.1, fun k hk => Nat.le_trans hs (h.2.2.2.2.2 k hk)⟩
/-- Functions that were read. -/
structure FL (w : World) (fs : List Fc) (xs : List Fv) (lv : Value) (wr : World) : Prop where
  ro : Ro wr 5 lv xs.length (flt enF xs)
  lo : ∀ k, lv.ownBlock = some k → w.heap.size ≤ k
  ln : xs.length = fs.length
  el : ∀ (i : Nat) (f : Fc) (x : Fv), fs[i]? = some f → xs[i]? = some x → FnW w wr f x ∧ ∀ k, (x.cv.ownBlock = some k ∨ x.hv.ownBlock = some k) → lv.ownBlock ≠ some k
theorem FL.fr {S : Nat → Prop} {w wr w' : World} {fs : List Fc} {xs : List Fv} {lv : Value} (h : FL w fs xs lv wr) (f : Fr S wr w') (hn : ∀ k, w.heap.size ≤ k → ¬ S k) : FL w fs xs lv w' :=
  ⟨h.ro.fr f (fun k hk => hn k (h.lo k hk)), h.lo, h.ln, fun i g x hg hx => ⟨(h.el i g x hg hx).1.fr f (fun b hb => hn b ((h.el i g x hg hx).1.2.2.2.2.2 b hb)), (h.el i g x hg hx).2⟩⟩
theorem flsnoc {T : Type} {l : List T} {t y : T} {k : Nat} (hy : (l ++ [t])[k]? = some y) : l[k]? = some y ∨ (k = l.length ∧ y = t) := by
  by_cases q : k < l.length
  · rw [List.getElem?_append_left q] at hy; exact .inl hy
  · rw [List.getElem?_append_right (by omega)] at hy
    cases e : k - l.length with
    | zero => rw [e] at hy; exact .inr ⟨by omega, by simpa using hy.symm⟩
    | succ q => rw [e] at hy; simp at hy
theorem FL.push {w wr X w2 : World} {fs : List Fc} {xs : List Fv} {lv v' : Value} {f : Fc} {x : Fv} {o p : Obj} {m : Nat} (h : FL w fs xs lv X) (hx : FnW wr X f x) (hw : w.heap.size ≤ wr.heap.size) (hlw : ∀ k, lv.ownBlock = some k → k < wr.heap.size)
    (hr : Ro w2 5 v' m (flt enF xs ++ enF x)) (hm : m = xs.length + 1) (hg : ((X.alloc o).alloc p).grownBy w2 lv.ownBlock) (hat : v'.ownBlock = lv.ownBlock ∨ v'.ownBlock = some (X.heap.size + 2)) (hX : wr.heap.size ≤ X.heap.size) : FL w (fs ++ [f]) (xs ++ [x]) v' w2 := by
  subst hm
  have g : Fr (fun k => lv.ownBlock = some k) X w2 := (((Fr.refl _ X).alloc o).alloc p).grown hg (fun k e => .inr e)
  refine ⟨by rw [List.length_append, flt_append, flt_one]; exact hr, fun k hk => ?_, by simp [h.ln], fun i f' x' hf hx' => ?_⟩
  · rcases hat with q | q
    · exact h.lo k (q ▸ hk)
    · rw [q] at hk; cases hk; omega
  · have key : FnW w X f' x' ∧ ∀ k, (x'.cv.ownBlock = some k ∨ x'.hv.ownBlock = some k) → lv.ownBlock ≠ some k := by
      rcases flsnoc hf with q | ⟨q1, q2⟩
      · have hi := (List.getElem?_eq_some_iff.1 q).1
        rcases flsnoc hx' with p | ⟨p1, _⟩
        · exact h.el i f' x' q p
        · have := h.ln; omega
      · rcases flsnoc hx' with p | ⟨_, p2⟩
        · have hi := (List.getElem?_eq_some_iff.1 p).1; have := h.ln; omega
        · subst q2; subst p2
          exact ⟨hx.low hw, fun k hk e => by have := hx.2.2.2.2.2 k hk; have := hlw k e; omega⟩
    refine ⟨key.1.fr g (fun b hb e => key.2 b hb e), fun k hk e => ?_⟩
    rcases hat with q | q
    · exact key.2 k hk (q ▸ e)
    · have := key.1.lt hk
      rw [q] at e; cases e; omega
theorem Tryz.info73 : (Tryz.prog.info? 73).map (fun i => (i.zero, i.size, i.bytes)) = some (some (.agg #[.string ByteArray.empty, .int .i64 0, .int .i64 0, .slice none 0 0, .slice none 0 0]), 5, 80) := by kernel_rfl
theorem wpList_appFn {w : World} {ops : Array Oper} {rest : List Oper} {o : Oper} {a : Act} {Q : Exit → Act → World → Prop}
    (hg : o.guard = none) (s x : Operand) (hop : o.op = Op.call { callee := Callee.builtin Builtin.append, args := #[s, x], argTypes := #[23, 23] })
    (v : Value) (n : Nat) (l : List Value) (hs : a.eval s = v) (hr : Ro w 5 v n l) (ad : Addr) (c : Nat) (nm : ByteArray) (pa lo : Int) (ca ha : Option Addr) (cn cc hn hc : Nat) (hx : a.eval x = .slice (some ad) 1 c) (hcl : ∀ j u, (enF ⟨nm, pa, lo, .slice ca cn cc, .slice ha hn hc⟩)[j]? = some u → w.cell? (ad.add j) = some u)
    (hN : n < 1000000000)
    (hK : ∀ v' w', Ro w' 5 v' (n + 1) (l ++ enF ⟨nm, pa, lo, .slice ca cn cc, .slice ha hn hc⟩) → w.grownBy w' v.ownBlock → (v'.ownBlock = v.ownBlock ∨ v'.ownBlock = some w.heap.size) → wpList Tryz.prog ops Q rest (a.put o.dst v') w') :
    wpList Tryz.prog ops Q (o :: rest) a w := by
  obtain ⟨i0, hi0, hz0, hz1, hz2⟩ := info_parts Tryz.info73
  exact wpList_app hg s x 23 hop 73 i0 _ 5 80 Tryz.underlying23 hi0 hz0 hz1 hz2 rfl (by decide) v n l hs hr ad 1 c (enF ⟨nm, pa, lo, .slice ca cn cc, .slice ha hn hc⟩) hx rfl hcl (by intro u hu; simp only [enF, List.mem_cons, List.not_mem_nil, or_false] at hu; rcases hu with rfl | rfl | rfl | rfl | rfl <;> rfl) (by omega) (by unfold maxLen; omega) (by omega) hK

set_option maxRecDepth 100000 in
set_option maxHeartbeats 6400000 in
theorem rdLF_any {w : World} {r rb : Nat} {s : Sr} (h : RS w r rb s) (hrb : rb < w.heap.size) (most : Int) (hm : most ≤ 100000) : Calls Tryz.prog 89 #[.pointer (some ⟨r, 0, none⟩), .int .i64 most, .func (Fn.func 90) #[] #[]] w fun e w' => ∃ la ln lc, RQ r rb w (.tuple #[.slice la ln lc, .int .i64 (rdL rdF most s).2.1]) (rdL rdF most s).2.2 e w' ∧ ((rdL rdF most s).2.1 = 0 → ∃ xs, FL w (rdL rdF most s).1 xs (.slice la ln lc) w') := by
  obtain ⟨z, hz⟩ : ∃ z, Hid (rdL rdF most s = z) := ⟨_, rfl⟩
  rw [unhide hz]
  unfold rdL at hz
  have H1 := hide (cnt_any h most (by omega))
  have hle := cnt_le most s
  generalize hcn : cnt most s = a at *
  obtain ⟨n, s1⟩ := a
  simp only at hz H1 hle
  have hnb : n ≤ 100000 := by omega
  have hr := h.lt
  have HRB := hide hrb
  have HRL := hide hr
  clear hcn h hrb hle
  go_enter Tryz.func89, Tryz.ntmps89
  go_wp2_with fail
  refine (unhide H1).mono ?_
  rintro e W1 ⟨rfl, hs1, hf1⟩
  have HS1 := hide hs1
  have HF1 := hide hf1
  have HG1 : Hid (FL w ([] : List Fc) [] (.slice none 0 0) W1) := ⟨by simpa [flt] using Ro.nil _ _, by simp [Value.ownBlock], rfl, fun i f x hf => by simp at hf⟩
  clear hs1 hf1 H1
  go_wp2_with fail
  go_loopg [8, 14] n (fun gg t8 t14 wr => ∃ (i : Nat) (acc : List Fc) (xs : List Fv) (s : Sr), Hid (i + gg = n) ∧ t14 = .int .i64 (i : Int) ∧ Hid (xs.length = i) ∧ Hid (lp rdF gg acc s = z) ∧ Hid (FL w acc xs t8 wr) ∧ Hid (RS wr r rb s) ∧ Hid (RFr r w wr))
  case atStart => exact ⟨0, [], [], s1, by unfold Hid; omega, rfl, rfl, hz, HG1, HS1, HF1⟩
  case round =>
    obtain ⟨i, acc, xs, s, hi, rfl, hal, hl, hG, hS, hF⟩ := hrel
    by_cases hlt : i < n
    · obtain ⟨g, rfl⟩ : ∃ g, gk = g + 1 := ⟨gk - 1, by have := unhide hi; omega⟩
      have hl2 := unhide hl
      rw [lp] at hl2
      have hwr : Hid (w.heap.size ≤ wr.heap.size) := (unhide hF).size
      have HH := hide (rdF_any (unhide hS) (by have := unhide HRB; have := unhide hwr; omega))
      obtain ⟨q, hq⟩ : ∃ q, rdF s = q := ⟨_, rfl⟩
      rw [hq] at hl2 HH
      obtain ⟨f, er, s2⟩ := q
      simp only at hl2 HH
      have HL2 := hide hl2
      have i2 : (i : Int) < (n : Int) := by omega
      clear hl2 hq
      go_wp2_with fail
      refine (unhide HH).mono ?_
      rintro e X ⟨nm, pa, lo, ca, cn, cc, ha, hn, hc, ⟨rfl, hs, hf⟩, hfw⟩
      have HS2 : Hid (RS (X.alloc (.cells #[.string nm, .int .i64 pa, .int .i64 lo, .slice ca cn cc, .slice ha hn hc] 73)) r rb s2) := hs.fr (S := fun _ => False) ((Fr.refl _ X).alloc _) (fun e => e) (fun e => e)
      have HF2 : Hid (RFr r w (X.alloc (.cells #[.string nm, .int .i64 pa, .int .i64 lo, .slice ca cn cc, .slice ha hn hc] 73))) := ((unhide hF).trans hf).alloc _
      by_cases he : er = 0
      · have HL3 : Hid (lp rdF g (acc ++ [f]) s2 = z) := by
          have := unhide HL2
          rw [if_neg (by simp [he])] at this
          exact this
        have hGX := (unhide hG).fr hf (fun k hk q => by have := unhide HRL; omega)
        have HGX := hide hGX
        have HFW := hide (hfw he)
        have HLW : Hid (∀ k, u8.ownBlock = some k → k < wr.heap.size) := (unhide hG).ro.lt
        have HGx : Hid (Ro ((X.alloc (.cells #[.string nm, .int .i64 pa, .int .i64 lo, .slice ca cn cc, .slice ha hn hc] 73)).alloc (.cells #[.string nm, .int .i64 pa, .int .i64 lo, .slice ca cn cc, .slice ha hn hc] 73)) 5 u8 i (flt enF xs)) := by
          have h5 := hGX.ro.fr (S := fun _ => False) (((Fr.refl _ X).alloc (.cells #[.string nm, .int .i64 pa, .int .i64 lo, .slice ca cn cc, .slice ha hn hc] 73)).alloc (.cells #[.string nm, .int .i64 pa, .int .i64 lo, .slice ca cn cc, .slice ha hn hc] 73)) (fun _ _ e => e)
          rw [unhide hal] at h5
          exact h5
        have HNC : Hid (∀ j u', (enF ⟨nm, pa, lo, .slice ca cn cc, .slice ha hn hc⟩)[j]? = some u' → ((X.alloc (.cells #[.string nm, .int .i64 pa, .int .i64 lo, .slice ca cn cc, .slice ha hn hc] 73)).alloc (.cells #[.string nm, .int .i64 pa, .int .i64 lo, .slice ca cn cc, .slice ha hn hc] 73)).cell? ((⟨X.heap.size + 1, 0, none⟩ : Addr).add j) = some u') := by
          have := new_cells (X.alloc (.cells #[.string nm, .int .i64 pa, .int .i64 lo, .slice ca cn cc, .slice ha hn hc] 73)) #[.string nm, .int .i64 pa, .int .i64 lo, .slice ca cn cc, .slice ha hn hc] 73
          unfold Hid enF
          simpa using this
        have he1 : (er != 0) = false := by simp [he]
        have hXs : Hid (wr.heap.size ≤ X.heap.size) := hf.size
        clear hs hf he hfw hGX
        go_wp2_with (first | (at_builtin; refine wpList_appFn rfl _ _ rfl u8 i (flt enF xs) rfl (unhide HGx) ⟨X.heap.size + 1, 0, none⟩ 1 nm pa lo ca ha cn cc hn hc rfl (unhide HNC) (by omega) ?_; intro v' w2 hr hg hat))
        have f2 : Fr (fun k => u8.ownBlock = some k) (X.alloc (.cells #[.string nm, .int .i64 pa, .int .i64 lo, .slice ca cn cc, .slice ha hn hc] 73)) w2 := ((Fr.refl _ _).alloc _).grown hg (fun k e => .inr e)
        have nb : ∀ k, u8.ownBlock = some k → w.heap.size ≤ k := (unhide hG).lo
        have HS3 : Hid (RS w2 r rb s2) := (unhide HS2).fr f2 (fun q => by have := nb r q; have := unhide HRL; omega) (fun q => by have := nb rb q; have := unhide HRB; omega)
        have HF3 : Hid (RFr r w w2) := (unhide HF2).stepw f2 (fun k hk q => by have := nb k q; omega)
        have HG3 : Hid (FL w (acc ++ [f]) (xs ++ [⟨nm, pa, lo, .slice ca cn cc, .slice ha hn hc⟩]) v' w2) := (unhide HGX).push (unhide HFW) (unhide hwr) (unhide HLW) hr (by rw [unhide hal]) hg (by simpa using hat) (unhide hXs)
        clear hr hg hat f2 nb
        go_wp2_with fail
        go_roundg g
        case measure => omega
        case rel => exact ⟨i + 1, acc ++ [f], xs ++ [⟨nm, pa, lo, .slice ca cn cc, .slice ha hn hc⟩], s2, by have := unhide hi; unfold Hid; omega, by go_num, by rw [Hid, List.length_append, unhide hal]; rfl, HL3, HG3, HS3, HF3⟩
      · have HZ : Hid (z = ([], er, s2)) := by
          have := unhide HL2
          rw [if_pos he] at this
          exact this.symm
        have he1 : (er != 0) = true := by simp [he]
        have HE := hide he
        clear hs hf he hfw
        go_wp2_with fail
        go_ret2
        rw [unhide HZ]
        exact ⟨_, _, _, ⟨rfl, unhide HS2, unhide HF2⟩, fun q => absurd q (unhide HE)⟩
    · have hg0 : gk = 0 := by have := unhide hi; omega
      subst hg0
      have i2 : ¬ (i : Int) < (n : Int) := by omega
      have HZ : Hid (z = (acc, s.2, s)) := (unhide hl).symm
      have HER := hide (err_any (unhide hS))
      obtain ⟨ga, gc, eg, -, -⟩ := (unhide hG).ro.shape
      subst eg
      go_wp2_with fail
      refine (unhide HER).mono ?_
      rintro e X ⟨rfl, rfl⟩
      go_wp2_with fail
      go_ret2
      rw [unhide HZ]
      exact ⟨_, _, _, ⟨rfl, unhide hS, unhide hF⟩, fun _ => ⟨xs, unhide hG⟩⟩

set_option linter.unusedVariables false
set_option linter.unusedSimpArgs false

def sgn4 : List UInt8 := [80, 84, 80, 1]
/-- A program, as it is read. -/
def rdP (s : Sr) : Pg × Int :=
  if (raw 4 s).2.2 = 0 ∧ (toStr (raw 4 s).1).toList ≠ sgn4 then (⟨[], []⟩, 4)
  else if (rdL rdC 512 (raw 4 s).2).2.1 ≠ 0 then (⟨[], []⟩, (rdL rdC 512 (raw 4 s).2).2.1)
  else if (rdL rdF 128 (rdL rdC 512 (raw 4 s).2).2.2).2.1 ≠ 0 then (⟨[], []⟩, (rdL rdF 128 (rdL rdC 512 (raw 4 s).2).2.2).2.1)
  else (⟨(rdL rdC 512 (raw 4 s).2).1, (rdL rdF 128 (rdL rdC 512 (raw 4 s).2).2.2).1⟩, rEnd (rdL rdF 128 (rdL rdC 512 (raw 4 s).2).2.2).2.2.1 (rdL rdF 128 (rdL rdC 512 (raw 4 s).2).2.2).2.2.2)
theorem load27 {w : World} {b : Nat} {x y : Value} (h : Bx w 2 b [x, y]) : (loadVar 25 ⟨b, 0, none⟩).run Tryz.prog w = .ok (.agg #[x, y]) w := by
  have c0 := h.cell (j := 0) rfl
  have c1 := h.cell (j := 1) rfl
  go_simp
theorem FL.rfs {w wr : World} {fs : List Fc} {xs : List Fv} {lv : Value} (h : FL w fs xs lv wr) : Rfs wr lv fs :=
  ⟨xs, h.ln, Rx.of_ro h.ro, fun i f x hf hx => by obtain ⟨⟨a, b, c, d, e, _⟩, _⟩ := h.el i f x hf hx; exact ⟨a, b, c, Rx.of_ro d, Rx.of_ro e⟩⟩
theorem LG.low {T : Type} {w0 w wr : World} {sz : Nat} {en : T → List Value} {l : List T} {v : Value} (h : LG w sz en l v wr) (hs : w0.heap.size ≤ w.heap.size) : LG w0 sz en l v wr := ⟨h.1, fun k hk => Nat.le_trans hs (h.2 k hk)⟩
theorem FL.low {w0 w wr : World} {fs : List Fc} {xs : List Fv} {lv : Value} (h : FL w fs xs lv wr) (hs : w0.heap.size ≤ w.heap.size) : FL w0 fs xs lv wr := ⟨h.ro, fun k hk => Nat.le_trans hs (h.lo k hk), h.ln, fun i f x hf hx => ⟨(h.el i f x hf hx).1.low hs, (h.el i f x hf hx).2⟩⟩
/-- A program in memory that is new. -/
def PW (w0 w : World) (cv fv : Value) (p : Pg) : Prop := LG w0 3 enC p.consts cv w ∧ ∃ xs, FL w0 p.funcs xs fv w
theorem PW.fr {S : Nat → Prop} {w0 w w' : World} {cv fv : Value} {p : Pg} (h : PW w0 w cv fv p) (f : Fr S w w') (hn : ∀ k, w0.heap.size ≤ k → ¬ S k) : PW w0 w' cv fv p := by
  obtain ⟨h1, xs, h2⟩ := h
  exact ⟨h1.fr f hn, xs, h2.fr f hn⟩
theorem PW.pgv {w0 w : World} {cv fv : Value} {p : Pg} (h : PW w0 w cv fv p) : PgV w (.agg #[cv, fv]) p := by
  obtain ⟨h1, xs, h2⟩ := h
  exact ⟨_, _, rfl, Rx.of_ro h1.1, h2.rfs⟩
set_option maxRecDepth 100000 in
set_option maxHeartbeats 6400000 in
theorem rdP_any {w : World} {r rb : Nat} {s : Sr} (h : RS w r rb s) (hrb : rb < w.heap.size) : Calls Tryz.prog 49 #[.pointer (some ⟨r, 0, none⟩)] w fun e w' => ∃ ca cn cc fa fn fc, e = .returned (.tuple #[.agg #[.slice ca cn cc, .slice fa fn fc], .int .i64 (rdP s).2]) ∧ RFr r w w' ∧ ((rdP s).2 = 0 → PW w w' (.slice ca cn cc) (.slice fa fn fc) (rdP s).1) := by
  obtain ⟨z, hz⟩ : ∃ z, Hid (rdP s = z) := ⟨_, rfl⟩
  rw [unhide hz]
  unfold rdP at hz
  have H1 := hide (fun (wx : World) (hx : RS wx r rb s) => rraw_any hx 4)
  generalize raw 4 s = a at *
  have H2 := hide (fun (wx : World) (hx : RS wx r rb a.2) (hy : rb < wx.heap.size) => rdLC_any hx hy 512 (by omega))
  generalize rdL rdC 512 a.2 = c at *
  have H3 := hide (fun (wx : World) (hx : RS wx r rb c.2.2) (hy : rb < wx.heap.size) => rdLF_any hx hy 128 (by omega))
  generalize rdL rdF 128 c.2.2 = f at *
  have hr := h.lt
  have HRB := hide hrb
  obtain ⟨W1, eW1⟩ : ∃ W1, Hid (W1 = w.alloc (.cells #[.slice none 0 0, .slice none 0 0] 25)) := ⟨_, rfl⟩
  have HA : Hid (Bx W1 2 w.heap.size [.slice none 0 0, .slice none 0 0]) := by rw [unhide eW1]; exact Bx.new rfl rfl
  have HF : Hid (RFr r w W1) := by rw [unhide eW1]; exact (Fr.refl _ w).alloc _
  have HS : Hid (RS W1 r rb s) := h.fr (S := fun _ => False) (by rw [unhide eW1]; exact (Fr.refl _ w).alloc _) (fun e => e) (fun e => e)
  clear h hrb
  go_enter Tryz.func49, Tryz.ntmps49
  go_wp2_with fail
  rw [← unhide eW1]
  clear eW1
  refine (unhide H1 W1 (unhide HS)).mono ?_
  rintro e X ⟨rv, ⟨rfl, hs, hf⟩, hrd, hbo, hrl⟩
  have hcv := str_conv X rv a.1 hrd hbo
  have HA : Hid (Bx X 2 w.heap.size [.slice none 0 0, .slice none 0 0]) := (unhide HA).fr hf (by omega)
  have HF : Hid (RFr r w X) := (unhide HF).trans hf
  have HS := hide hs
  have HER := hide (err_any hs)
  clear hs hf hrd hbo hrl H1
  go_wp2_with fail
  refine (unhide HER).mono ?_
  rintro e X' ⟨rfl, eX⟩
  obtain rfl := eX.symm
  clear eX
  clear hcv HER
  have m0 := (unhide HA).cell (j := 0) rfl
  have m1 := (unhide HA).cell (j := 1) rfl
  have y0 := (unhide HA).free 0
  have y1 := (unhide HA).free 1
  have HXb : Hid (w.heap.size + 1 ≤ X.heap.size) := (unhide HA).lt
  by_cases q1 : a.2.2 = 0 ∧ (toStr a.1).toList ≠ sgn4
  · rw [if_pos q1] at hz
    have d0 : (a.2.2 == 0) = true := by simp [q1.1]
    have d1 : ((toStr a.1).toList == [80, 84, 80, 1]) = false := by have := q1.2; unfold sgn4 at this; simpa using this
    clear q1
    go_wp2_with fail
    have hA6 := ((unhide HA).set (j := 0) (by omega) (.slice none 0 0)).set (j := 1) (by omega) (.slice none 0 0)
    refine bodyPost_ret (v := .tuple #[.agg #[.slice none 0 0, .slice none 0 0], .int .i64 4]) (by rw [results_ct (fn := Tryz.f49) (p := 2) (q := 3) (t1 := 25) rfl _ _ _ (a1 := ⟨w.heap.size, 0, none⟩) rfl (load27 hA6)]; rfl) rfl ?_
    rw [← unhide hz]
    exact ⟨_, _, _, _, _, _, rfl, (((unhide HF).setCell ⟨w.heap.size, 0, none⟩ (.inl (Nat.le_refl _)) _).setCell ⟨w.heap.size, 1, none⟩ (.inl (Nat.le_refl _)) _), fun q => absurd q (by simp)⟩
  · rw [if_neg q1] at hz
    by_cases q0 : a.2.2 = 0
    · have d0 : (a.2.2 == 0) = true := by simp [q0]
      have d1 : ((toStr a.1).toList == [80, 84, 80, 1]) = true := by
        by_cases q : (toStr a.1).toList = sgn4
        · rw [q]; rfl
        · exact absurd ⟨q0, q⟩ q1
      clear q1 q0
      clear m0 m1 y0 y1
      go_wp2_with fail
      refine (unhide H2 X (unhide HS) (by have := unhide HRB; have := (unhide HF).size; omega)).mono ?_
      rintro e X2 ⟨la, ln, lc, ⟨rfl, hs, hf⟩, hlg⟩
      have HA : Hid (Bx X2 2 w.heap.size [.slice none 0 0, .slice none 0 0]) := (unhide HA).fr hf (by omega)
      have HXs : Hid (w.heap.size ≤ X.heap.size) := (unhide HF).size
      have HX2b : Hid (w.heap.size + 1 ≤ X2.heap.size) := (unhide HA).lt
      have HF : Hid (RFr r w X2) := (unhide HF).trans hf
      have HS := hide hs
      have m0 := (unhide HA).cell (j := 0) rfl
      have m1 := (unhide HA).cell (j := 1) rfl
      have y0 := (unhide HA).free 0
      have y1 := (unhide HA).free 1
      by_cases q2 : c.2.1 = 0
      · have HLG := hide (hlg q2)
        rw [if_neg (by simp [q2])] at hz
        have d2 : (c.2.1 != 0) = false := by simp [q2]
        clear hs hf hlg q2 m0 m1 y0 y1
        go_wp2_with fail
        refine (unhide H3 X2 (unhide HS) (by have := unhide HRB; have := (unhide HF).size; omega)).mono ?_
        rintro e X3 ⟨fa, fn, fc, ⟨rfl, hs, hf⟩, hfl⟩
        have HA : Hid (Bx X3 2 w.heap.size [.slice none 0 0, .slice none 0 0]) := (unhide HA).fr hf (by omega)
        have HF : Hid (RFr r w X3) := (unhide HF).trans hf
        have HS := hide hs
        have HLG3 : Hid (LG X 3 enC c.1 (.slice la ln lc) X3) := (unhide HLG).fr hf (fun k hk q => by have := unhide HXs; omega)
        have m0 := (unhide HA).cell (j := 0) rfl
        have m1 := (unhide HA).cell (j := 1) rfl
        have y0 := (unhide HA).free 0
        have y1 := (unhide HA).free 1
        by_cases q3 : f.2.1 = 0
        · obtain ⟨xs, hfl⟩ := hfl q3
          have HFL := hide hfl
          have HXs2 : Hid (w.heap.size + 1 ≤ X2.heap.size ∧ w.heap.size + 1 ≤ X.heap.size) := by
            exact ⟨unhide HX2b, unhide HXb⟩
          rw [if_neg (by simp [q3])] at hz
          have d3 : (f.2.1 != 0) = false := by simp [q3]
          have HEN := hide (end_any (unhide HS))
          clear hs hf q3
          go_wp2_with fail
          refine (unhide HEN).mono ?_
          rintro e X3' ⟨rfl, eX⟩
          obtain rfl := eX.symm
          clear eX
          go_wp2_with fail
          have hA6 := ((unhide HA).set (j := 0) (by omega) (.slice la ln lc)).set (j := 1) (by omega) (.slice fa fn fc)
          have g : Fr (fun k => k = w.heap.size) X3 ((X3.setCell ⟨w.heap.size, 0, none⟩ (.slice la ln lc)).setCell ⟨w.heap.size, 1, none⟩ (.slice fa fn fc)) := ((Fr.refl (fun k => k = w.heap.size) X3).setCell ⟨w.heap.size, 0, none⟩ (.inr rfl) _).setCell ⟨w.heap.size, 1, none⟩ (.inr rfl) _
          refine bodyPost_ret (v := .tuple #[.agg #[.slice la ln lc, .slice fa fn fc], .int .i64 (rEnd f.2.2.1 f.2.2.2)]) (by rw [results_ct (fn := Tryz.f49) (p := 2) (q := 3) (t1 := 25) rfl _ _ _ (a1 := ⟨w.heap.size, 0, none⟩) rfl (load27 hA6)]; rfl) rfl ?_
          rw [← unhide hz]
          refine ⟨_, _, _, _, _, _, rfl, (((unhide HF).setCell ⟨w.heap.size, 0, none⟩ (.inl (Nat.le_refl _)) _).setCell ⟨w.heap.size, 1, none⟩ (.inl (Nat.le_refl _)) _), fun _ => ?_⟩
          exact ⟨((unhide HLG3).fr g (fun k hk q => by have := (unhide HXs2).2; omega)).low (by have := (unhide HXs2).2; omega), xs, ((unhide HFL).fr g (fun k hk q => by have := (unhide HXs2).1; omega)).low (by have := (unhide HXs2).1; omega)⟩
        · have HE := hide q3
          rw [if_pos q3] at hz
          have d3 : (f.2.1 != 0) = true := by simp [q3]
          clear hs hf q3 hfl
          go_wp2_with fail
          have hA6 := ((unhide HA).set (j := 0) (by omega) (.slice none 0 0)).set (j := 1) (by omega) (.slice none 0 0)
          refine bodyPost_ret (v := .tuple #[.agg #[.slice none 0 0, .slice none 0 0], .int .i64 f.2.1]) (by rw [results_ct (fn := Tryz.f49) (p := 2) (q := 3) (t1 := 25) rfl _ _ _ (a1 := ⟨w.heap.size, 0, none⟩) rfl (load27 hA6)]; rfl) rfl ?_
          rw [← unhide hz]
          exact ⟨_, _, _, _, _, _, rfl, (((unhide HF).setCell ⟨w.heap.size, 0, none⟩ (.inl (Nat.le_refl _)) _).setCell ⟨w.heap.size, 1, none⟩ (.inl (Nat.le_refl _)) _), fun q => absurd q (unhide HE)⟩
      · have HE := hide q2
        rw [if_pos q2] at hz
        have d2 : (c.2.1 != 0) = true := by simp [q2]
        clear hs hf q2 hlg
        go_wp2_with fail
        have hA6 := ((unhide HA).set (j := 0) (by omega) (.slice none 0 0)).set (j := 1) (by omega) (.slice none 0 0)
        refine bodyPost_ret (v := .tuple #[.agg #[.slice none 0 0, .slice none 0 0], .int .i64 c.2.1]) (by rw [results_ct (fn := Tryz.f49) (p := 2) (q := 3) (t1 := 25) rfl _ _ _ (a1 := ⟨w.heap.size, 0, none⟩) rfl (load27 hA6)]; rfl) rfl ?_
        rw [← unhide hz]
        exact ⟨_, _, _, _, _, _, rfl, (((unhide HF).setCell ⟨w.heap.size, 0, none⟩ (.inl (Nat.le_refl _)) _).setCell ⟨w.heap.size, 1, none⟩ (.inl (Nat.le_refl _)) _), fun q => absurd q (unhide HE)⟩
    · have d0 : (a.2.2 == 0) = false := by simp [q0]
      clear q1 q0
      clear m0 m1 y0 y1
      go_wp2_with fail
      refine (unhide H2 X (unhide HS) (by have := unhide HRB; have := (unhide HF).size; omega)).mono ?_
      rintro e X2 ⟨la, ln, lc, ⟨rfl, hs, hf⟩, hlg⟩
      have HA : Hid (Bx X2 2 w.heap.size [.slice none 0 0, .slice none 0 0]) := (unhide HA).fr hf (by omega)
      have HXs : Hid (w.heap.size ≤ X.heap.size) := (unhide HF).size
      have HX2b : Hid (w.heap.size + 1 ≤ X2.heap.size) := (unhide HA).lt
      have HF : Hid (RFr r w X2) := (unhide HF).trans hf
      have HS := hide hs
      have m0 := (unhide HA).cell (j := 0) rfl
      have m1 := (unhide HA).cell (j := 1) rfl
      have y0 := (unhide HA).free 0
      have y1 := (unhide HA).free 1
      by_cases q2 : c.2.1 = 0
      · have HLG := hide (hlg q2)
        rw [if_neg (by simp [q2])] at hz
        have d2 : (c.2.1 != 0) = false := by simp [q2]
        clear hs hf hlg q2 m0 m1 y0 y1
        go_wp2_with fail
        refine (unhide H3 X2 (unhide HS) (by have := unhide HRB; have := (unhide HF).size; omega)).mono ?_
        rintro e X3 ⟨fa, fn, fc, ⟨rfl, hs, hf⟩, hfl⟩
        have HA : Hid (Bx X3 2 w.heap.size [.slice none 0 0, .slice none 0 0]) := (unhide HA).fr hf (by omega)
        have HF : Hid (RFr r w X3) := (unhide HF).trans hf
        have HS := hide hs
        have HLG3 : Hid (LG X 3 enC c.1 (.slice la ln lc) X3) := (unhide HLG).fr hf (fun k hk q => by have := unhide HXs; omega)
        have m0 := (unhide HA).cell (j := 0) rfl
        have m1 := (unhide HA).cell (j := 1) rfl
        have y0 := (unhide HA).free 0
        have y1 := (unhide HA).free 1
        by_cases q3 : f.2.1 = 0
        · obtain ⟨xs, hfl⟩ := hfl q3
          have HFL := hide hfl
          have HXs2 : Hid (w.heap.size + 1 ≤ X2.heap.size ∧ w.heap.size + 1 ≤ X.heap.size) := by
            exact ⟨unhide HX2b, unhide HXb⟩
          rw [if_neg (by simp [q3])] at hz
          have d3 : (f.2.1 != 0) = false := by simp [q3]
          have HEN := hide (end_any (unhide HS))
          clear hs hf q3
          go_wp2_with fail
          refine (unhide HEN).mono ?_
          rintro e X3' ⟨rfl, eX⟩
          obtain rfl := eX.symm
          clear eX
          go_wp2_with fail
          have hA6 := ((unhide HA).set (j := 0) (by omega) (.slice la ln lc)).set (j := 1) (by omega) (.slice fa fn fc)
          have g : Fr (fun k => k = w.heap.size) X3 ((X3.setCell ⟨w.heap.size, 0, none⟩ (.slice la ln lc)).setCell ⟨w.heap.size, 1, none⟩ (.slice fa fn fc)) := ((Fr.refl (fun k => k = w.heap.size) X3).setCell ⟨w.heap.size, 0, none⟩ (.inr rfl) _).setCell ⟨w.heap.size, 1, none⟩ (.inr rfl) _
          refine bodyPost_ret (v := .tuple #[.agg #[.slice la ln lc, .slice fa fn fc], .int .i64 (rEnd f.2.2.1 f.2.2.2)]) (by rw [results_ct (fn := Tryz.f49) (p := 2) (q := 3) (t1 := 25) rfl _ _ _ (a1 := ⟨w.heap.size, 0, none⟩) rfl (load27 hA6)]; rfl) rfl ?_
          rw [← unhide hz]
          refine ⟨_, _, _, _, _, _, rfl, (((unhide HF).setCell ⟨w.heap.size, 0, none⟩ (.inl (Nat.le_refl _)) _).setCell ⟨w.heap.size, 1, none⟩ (.inl (Nat.le_refl _)) _), fun _ => ?_⟩
          exact ⟨((unhide HLG3).fr g (fun k hk q => by have := (unhide HXs2).2; omega)).low (by have := (unhide HXs2).2; omega), xs, ((unhide HFL).fr g (fun k hk q => by have := (unhide HXs2).1; omega)).low (by have := (unhide HXs2).1; omega)⟩
        · have HE := hide q3
          rw [if_pos q3] at hz
          have d3 : (f.2.1 != 0) = true := by simp [q3]
          clear hs hf q3 hfl
          go_wp2_with fail
          have hA6 := ((unhide HA).set (j := 0) (by omega) (.slice none 0 0)).set (j := 1) (by omega) (.slice none 0 0)
          refine bodyPost_ret (v := .tuple #[.agg #[.slice none 0 0, .slice none 0 0], .int .i64 f.2.1]) (by rw [results_ct (fn := Tryz.f49) (p := 2) (q := 3) (t1 := 25) rfl _ _ _ (a1 := ⟨w.heap.size, 0, none⟩) rfl (load27 hA6)]; rfl) rfl ?_
          rw [← unhide hz]
          exact ⟨_, _, _, _, _, _, rfl, (((unhide HF).setCell ⟨w.heap.size, 0, none⟩ (.inl (Nat.le_refl _)) _).setCell ⟨w.heap.size, 1, none⟩ (.inl (Nat.le_refl _)) _), fun q => absurd q (unhide HE)⟩
      · have HE := hide q2
        rw [if_pos q2] at hz
        have d2 : (c.2.1 != 0) = true := by simp [q2]
        clear hs hf q2 hlg
        go_wp2_with fail
        have hA6 := ((unhide HA).set (j := 0) (by omega) (.slice none 0 0)).set (j := 1) (by omega) (.slice none 0 0)
        refine bodyPost_ret (v := .tuple #[.agg #[.slice none 0 0, .slice none 0 0], .int .i64 c.2.1]) (by rw [results_ct (fn := Tryz.f49) (p := 2) (q := 3) (t1 := 25) rfl _ _ _ (a1 := ⟨w.heap.size, 0, none⟩) rfl (load27 hA6)]; rfl) rfl ?_
        rw [← unhide hz]
        exact ⟨_, _, _, _, _, _, rfl, (((unhide HF).setCell ⟨w.heap.size, 0, none⟩ (.inl (Nat.le_refl _)) _).setCell ⟨w.heap.size, 1, none⟩ (.inl (Nat.le_refl _)) _), fun q => absurd q (unhide HE)⟩

set_option linter.unusedVariables false
set_option linter.unusedSimpArgs false

theorem lp_all {T : Type} {rd : Sr → T × Int × Sr} {P : T → Prop} (h : ∀ s, (rd s).2.1 = 0 → P (rd s).1) : ∀ (n : Nat) (acc : List T) (s : Sr), (∀ x ∈ acc, P x) → ∀ x ∈ (lp rd n acc s).1, P x := by
  intro n
  induction n with
  | zero => intro acc s ha; exact ha
  | succ n ih =>
    intro acc s ha
    rw [lp]
    by_cases q : (rd s).2.1 ≠ 0
    · rw [if_pos q]; intro x hx; simp at hx
    · rw [if_neg q]
      refine ih _ _ (fun x hx => ?_)
      rcases List.mem_append.1 hx with p | p
      · exact ha x p
      · rw [List.mem_singleton] at p; subst p; exact h s (by simpa using q)
theorem rdL_all {T : Type} {rd : Sr → T × Int × Sr} {P : T → Prop} (h : ∀ s, (rd s).2.1 = 0 → P (rd s).1) (most : Int) (s : Sr) : ∀ x ∈ (rdL rd most s).1, P x := lp_all h _ _ _ (fun x hx => by simp at hx)
theorem txt_len (most : Int) (s : Sr) : ((txt most s).1.size : Int) ≤ max most 0 := by
  unfold txt
  by_cases q : s.2 = 0
  · rw [if_pos q]
    cases hu : unumMost most s.1 with
    | error k => simp [ByteArray.size]; omega
    | ok p =>
      obtain ⟨x, t⟩ := p
      have := (unumMost_len hu).2
      by_cases q2 : t.length < x
      · simp only [if_pos q2]; simp [ByteArray.size]; omega
      · simp only [if_neg q2, toStr_size, List.length_take]; omega
  · rw [if_neg q]; simp [ByteArray.size]; omega
theorem rdC_ok (s : Sr) (h : (rdC s).2.1 = 0) : OkC (rdC s).1 := by
  unfold rdC at h ⊢
  by_cases q3 : (byt s).1 = 3
  · rw [if_pos q3]
    exact ⟨(by decide : (Lit.int .i64 3).wf = true), wrap64_wf _, by simp [ByteArray.size, maxLen]⟩
  · rw [if_neg q3] at h ⊢
    by_cases q4 : (byt s).1 = 4
    · rw [if_pos q4]
      have := txt_len 4096 (byt s).2
      exact ⟨(by decide : (Lit.int .i64 4).wf = true), (by decide : (Lit.int .i64 0).wf = true), by unfold maxLen; simp only; omega⟩
    · rw [if_neg q4] at h ⊢
      by_cases q5 : (byt s).2.2 = 0
      · rw [if_pos q5] at h; simp at h
      · rw [if_neg q5] at h; exact absurd h q5
theorem decG_len : ∀ (f : Nat) (acc : List (Int × Int)) (B : List Int) (l : List (Int × Int)), acc.length ≤ 2000 → decG f acc B = .ok l → l.length ≤ 2000 := by
  intro f
  induction f with
  | zero => intro acc B l ha h; rw [decG] at h; cases h; exact ha
  | succ f ih =>
    intro acc B l ha h
    cases B with
    | nil => rw [decG] at h; cases h; exact ha
    | cons b t =>
      rw [decG] at h
      by_cases q : acc.length = 2000
      · rw [if_pos q] at h; cases h
      · rw [if_neg q] at h
        cases hr : rd1 b t with
        | error e => rw [hr] at h; cases h
        | ok p =>
          obtain ⟨p, t'⟩ := p
          rw [hr] at h
          exact ih _ _ _ (by rw [List.length_append]; simp; omega) h
theorem lst_len (B : List Int) : (lstOf (dec B)).length ≤ 2000 := by
  cases h : dec B with
  | error e => simp [lstOf]
  | ok l => exact decG_len _ _ _ _ (by simp) h
theorem rdF_ok (s : Sr) (h : (rdF s).2.1 = 0) : (rdF s).1.code.length ≤ 2000 ∧ (rdF s).1.name.size ≤ 32 := by
  unfold rdF at h ⊢
  by_cases q : errOf (dec (rdF0 s).1.2.2.2) ≠ 0
  · rw [if_pos q] at h; exact absurd h q
  · rw [if_neg q]
    refine ⟨lst_len _, ?_⟩
    have := txt_len 32 s
    have e : (rdF0 s).1.1 = (txt 32 s).1 := rfl
    show (rdF0 s).1.1.size ≤ 32
    rw [e]; omega
theorem rdP_ok (s : Sr) : OkP (rdP s).1 := by
  unfold rdP
  have none : OkP ⟨[], []⟩ := ⟨fun c hc => by simp at hc, fun i f hf => by simp at hf⟩
  split
  · exact none
  · split
    · exact none
    · split
      · exact none
      · refine ⟨rdL_all rdC_ok 512 _, fun i f hf => ?_⟩
        have := rdL_all (P := fun f => f.code.length ≤ 2000 ∧ f.name.size ≤ 32) rdF_ok 128 _ f (List.mem_of_getElem? hf)
        omega
theorem csG_ne : ∀ {l pre : List Cn} {a y : Int}, csG pre l = some (a, y) → y ≠ 0
  | [], _, _, _, h => by cases h
  | c :: r, pre, a, y, h => by
    rw [csG] at h
    split at h
    · cases h; decide
    · split at h
      · cases h; decide
      · split at h
        · cases h; decide
        · exact csG_ne h
theorem cdG_ne {p : Pg} {f : Fc} : ∀ {l : List (Int × Int)} {i : Nat} {a y : Int}, cdG p f l i = some (a, y) → y ≠ 0
  | [], _, _, _, h => by cases h
  | (op, x) :: r, i, a, y, h => by
    rw [cdG] at h
    split at h
    · rename_i q; cases h; exact q
    · split at h
      · cases h; decide
      · exact cdG_ne h
theorem hsG_ne {n : Int} : ∀ {l : List Hd} {i : Nat} {a y : Int}, hsG n l i = some (a, y) → y ≠ 0
  | [], _, _, _, h => by cases h
  | k :: r, i, a, y, h => by
    rw [hsG] at h
    split at h
    · exact hsG_ne h
    · cases h; decide
theorem fnF_ne {p : Pg} {f : Fc} {m t : Bool} {a y : Int} (h : fnF p f m t = some (a, y)) : y ≠ 0 := by
  unfold fnF at h
  cases h1 : nmF f.name t with
  | some e =>
    rw [h1] at h
    cases h
    unfold nmF at h1
    split at h1
    · cases h1; decide
    · split at h1
      · cases h1; decide
      · split at h1
        · cases h1; decide
        · cases h1
  | none =>
    rw [h1] at h
    simp only [orE] at h
    cases h2 : szF f m with
    | some e =>
      rw [h2] at h
      cases h
      unfold szF at h2
      split at h2
      · cases h2; decide
      · split at h2
        · cases h2; decide
        · split at h2
          · cases h2; decide
          · split at h2
            · cases h2; decide
            · cases h2
    | none =>
      rw [h2] at h
      simp only [orE] at h
      cases h3 : cdF p f with
      | some e =>
        rw [h3] at h
        cases h
        exact cdG_ne h3
      | none =>
        rw [h3] at h
        simp only [orE] at h
        unfold hsF at h
        split at h
        · cases h; decide
        · exact hsG_ne h
theorem fsG_ne {p : Pg} : ∀ {l pre : List Fc} {k a y : Int}, fsG p pre l = some (k, a, y) → y ≠ 0
  | [], _, _, _, _, h => by cases h
  | f :: r, pre, k, a, y, h => by
    rw [fsG] at h
    split at h
    · rename_i e he
      obtain ⟨a', y'⟩ := e
      cases h
      exact fnF_ne he
    · exact fsG_ne h
theorem ckF_ne {p : Pg} {k a y : Int} (h : ckF p = some (k, a, y)) : y ≠ 0 := by
  unfold ckF at h
  split at h
  · rename_i e he
    obtain ⟨a', y'⟩ := e
    cases h
    unfold csF at he
    split at he
    · cases he; decide
    · exact csG_ne he
  · split at h
    · cases h; decide
    · split at h
      · cases h; decide
      · exact fsG_ne h
/-- What Decode answers. -/
noncomputable def decP (B : List Int) : Pg × Int :=
  if 4194304 < B.length then (⟨[], []⟩, 5)
  else if (rdP (B, 0)).2 ≠ 0 then (⟨[], []⟩, (rdP (B, 0)).2)
  else match ckF (rdP (B, 0)).1 with
    | some (_, _, y) => (⟨[], []⟩, y)
    | none => ((rdP (B, 0)).1, 0)
theorem decP_ok {B : List Int} (h : (decP B).2 = 0) : OkP (decP B).1 ∧ ckF (decP B).1 = none := by
  unfold decP at h ⊢
  split at h
  · simp at h
  · rename_i q1
    rw [if_neg q1]
    split at h
    · rename_i q2; exact absurd h q2
    · rename_i q2
      rw [if_neg q2]
      cases hc : ckF (rdP (B, 0)).1 with
      | some e => obtain ⟨k, a, y⟩ := e; rw [hc] at h; exact absurd h (ckF_ne hc)
      | none => exact ⟨rdP_ok _, hc⟩
theorem PW.low' {w0 w1 w : World} {cv fv : Value} {p : Pg} (h : PW w1 w cv fv p) (hs : w0.heap.size ≤ w1.heap.size) : PW w0 w cv fv p := by
  obtain ⟨h1, xs, h2⟩ := h
  exact ⟨h1.low hs, xs, h2.low hs⟩
theorem Laid.blw {B : Nat} {w w' : World} (h : Laid w) (f : Below B w w') (hB : 0 < B) : Laid w' := (f.cell (p := ⟨0, 0, none⟩) hB).trans h
set_option maxRecDepth 100000 in
set_option maxHeartbeats 6400000 in
theorem decP_any {w : World} {v : Value} {B : List Int} (hR : Rd w v B) (hB : BOk B) (hN : B.length ≤ 140737488355328) (hl : Laid w) : Calls Tryz.prog 19 #[v] w fun e w' => ∃ ca cn cc fa fn fc, e = .returned (.tuple #[.agg #[.slice ca cn cc, .slice fa fn fc], .int .i64 (decP B).2]) ∧ Below w.heap.size w w' ∧ ((decP B).2 = 0 → PW w w' (.slice ca cn cc) (.slice fa fn fc) (decP B).1) ∧ ((decP B).2 ≠ 0 → Value.agg #[.slice ca cn cc, .slice fa fn fc] = .agg #[.slice none 0 0, .slice none 0 0]) := by
  obtain ⟨z, hz⟩ : ∃ z, Hid (decP B = z) := ⟨_, rfl⟩
  rw [unhide hz]
  unfold decP at hz
  have gl : 0 < w.heap.size := World.block_lt_of_cell? _ _ hl
  obtain ⟨va, vc, rfl⟩ : ∃ va vc, v = .slice va B.length vc := by
    rcases hR with ⟨e1, e2⟩ | ⟨b, off, cap, e, _⟩
    · exact ⟨none, 0, by rw [e1, e2]; rfl⟩
    · exact ⟨_, _, e⟩
  obtain ⟨N, hNN⟩ : ∃ N, Hid (B.length = N) := ⟨_, rfl⟩
  rw [unhide hNN] at hR hN hz ⊢
  obtain ⟨W1, eW1⟩ : ∃ W1, Hid (W1 = w.alloc (.cells #[.slice none 0 0, .slice none 0 0] 25)) := ⟨_, rfl⟩
  have HA : Hid (Bx W1 2 w.heap.size [.slice none 0 0, .slice none 0 0]) := by rw [unhide eW1]; exact Bx.new rfl rfl
  have HF : Hid (Below w.heap.size w W1) := by rw [unhide eW1]; exact (Below.refl _ w).alloc (Nat.le_refl _) _
  have hR1 : Rd W1 (.slice va N vc) B := by
    rcases hR with ⟨e1, e2⟩ | ⟨b, off, cap, e, c1, c2, c3, c4⟩
    · exact .inl ⟨e1, e2⟩
    · exact .inr ⟨b, off, cap, e, c1, c2, Nat.lt_of_lt_of_le c3 (unhide HF).size, fun i hi => ((unhide HF).cell (p := ⟨b, off + i, none⟩) c3).trans (c4 i hi)⟩
  have HNR := hide (newReader_any (.slice va N vc) B W1 hR1 (by rw [unhide hNN]; exact hN))
  have HLD := hide hl
  have HGL := hide gl
  have HBO := hide hB
  have HA1 := HA
  clear hR hR1 hB hl gl
  go_enter Tryz.func19, Tryz.ntmps19
  by_cases q1 : 4194304 < N
  · rw [if_pos q1] at hz
    have m0 := (unhide HA).cell (j := 0) rfl
    have m1 := (unhide HA).cell (j := 1) rfl
    have i1 : (N : Int) > 4194304 := by omega
    go_wp2_with fail
    refine bodyPost_ret (v := .tuple #[.agg #[.slice none 0 0, .slice none 0 0], .int .i64 5]) (by rw [results_ct (fn := Tryz.f19) (p := 2) (q := 3) (t1 := 25) rfl _ _ _ (a1 := ⟨w.heap.size, 0, none⟩) rfl (load27 (by have := unhide HA; rwa [unhide eW1] at this))]; rfl) rfl ?_
    rw [← unhide hz]
    exact ⟨_, _, _, _, _, _, rfl, by rw [← unhide eW1]; exact unhide HF, fun q => absurd q (by simp), fun _ => rfl⟩
  · rw [if_neg q1] at hz
    have i1 : ¬ (N : Int) > 4194304 := by omega
    go_wp2_with fail
    rw [← unhide eW1]
    clear eW1
    refine (unhide HNR).mono ?_
    rintro e W2 ⟨r, rb, v2, rfl, hr, hrb, hrd, hb2⟩
    have hs : ∃ rb', RS W2 r rb' (B, 0) ∧ rb' < W2.heap.size := by
      have hsz := hb2.size
      have h0 := (unhide HF).size
      rcases hrd.rd with ⟨e1, e2⟩ | ⟨b, off, cap, e, _, _, c3, _⟩
      · refine ⟨0, ⟨v2, ⟨hrd.c0, hrd.c1, hrd.f0, hrd.f1, hrd.rd, fun b off len cap e => ?_, ?_⟩, unhide HBO, ?_⟩, ?_⟩
        · rw [e1] at e; cases e
        · have := unhide HGL; omega
        · show B.length ≤ _; rw [unhide hNN]; exact hN
        · have := unhide HGL; omega
      · exact ⟨rb, ⟨v2, hrd, unhide HBO, by show B.length ≤ _; rw [unhide hNN]; exact hN⟩, by rw [← hrd.ap _ _ _ _ e]; exact c3⟩
    obtain ⟨rb', hs, hrb'⟩ := hs
    have HRP := hide (rdP_any hs hrb')
    have HOK := hide (rdP_ok (B, 0))
    have HA : Hid (Bx W2 2 w.heap.size [.slice none 0 0, .slice none 0 0]) := (unhide HA).fr (S := fun _ => False) (Fr.of_below hb2) (fun e => e)
    have HW12 : Hid (Below w.heap.size w W2) := (unhide HF).trans (hb2.mono (unhide HF).size)
    have HW2s : Hid (w.heap.size < W2.heap.size) := (unhide HA).lt
    have HRw : Hid (w.heap.size < r) := by have := (unhide HA1).lt; unfold Hid; omega
    generalize rdP (B, 0) = p at *
    clear hs hrb' hrd hb2 hr hrb HNR
    go_wp2_with fail
    refine (unhide HRP).mono ?_
    rintro e X3 ⟨ca, cn, cc, fa, fn, fc, rfl, hf, hpg⟩
    have HA : Hid (Bx X3 2 w.heap.size [.slice none 0 0, .slice none 0 0]) := (unhide HA).fr hf (by have := unhide HRw; omega)
    have HW3 : Hid (Below w.heap.size w X3) := (unhide HW12).trans (Fr.below hf (unhide HW12).size (fun k hk q => by have := unhide HRw; omega))
    have lb : w.heap.size < X3.heap.size := (unhide HA).lt
    have m0 := (unhide HA).cell (j := 0) rfl
    have m1 := (unhide HA).cell (j := 1) rfl
    have y0 := (unhide HA).free 0
    have y1 := (unhide HA).free 1
    by_cases q2 : p.2 = 0
    · rw [if_neg (by simp [q2])] at hz
      have d2 : (p.2 != 0) = false := by simp [q2]
      obtain ⟨X4, eX4⟩ : ∃ X4, Hid (X4 = X3.alloc (.cells #[.slice ca cn cc, .slice fa fn fc] 25)) := ⟨_, rfl⟩
      have b34 : Below X3.heap.size X3 X4 := by rw [unhide eX4]; exact (Below.refl _ _).alloc (Nat.le_refl _) _
      have HB4 : Hid (Bx X4 2 X3.heap.size [.slice ca cn cc, .slice fa fn fc]) := by rw [unhide eX4]; exact Bx.new rfl rfl
      have HPW := hide ((hpg q2).fr (S := fun _ => False) (Fr.of_below b34) (fun _ _ e => e))
      have HW4 : Hid (Below w.heap.size w X4) := (unhide HW3).trans (b34.mono (unhide HW3).size)
      have HA4 : Hid (Bx X4 2 w.heap.size [.slice none 0 0, .slice none 0 0]) := (unhide HA).fr (S := fun _ => False) (Fr.of_below b34) (fun e => e)
      have HCK := hide (pCheck_any (unhide HPW).pgv (unhide HOK) ((unhide HLD).blw (unhide HW4) (unhide HGL)))
      obtain ⟨k, a, y, hRS⟩ : ∃ k a y, rsV (ckF p.1) = .tuple #[.agg #[.int .i64 k, .int .i64 a], .int .i64 y] := by
        cases ckF p.1 with
        | none => exact ⟨0, 0, 0, rfl⟩
        | some e => obtain ⟨k, a, y⟩ := e; exact ⟨k, a, y, rfl⟩
      have HRS := hide hRS
      rw [hRS] at HCK
      clear hf hpg q2 b34 hRS m0 m1 y0 y1
      go_wp2_with fail
      rw [← unhide eX4]
      clear eX4
      refine (unhide HCK).mono ?_
      rintro e X5 ⟨rfl, hb5⟩
      have f5 : Fr (fun _ => False) X4 X5 := Fr.of_below hb5
      have HA : Hid (Bx X5 2 w.heap.size [.slice none 0 0, .slice none 0 0]) := (unhide HA4).fr f5 (fun e => e)
      have HB5 : Hid (Bx X5 2 X3.heap.size [.slice ca cn cc, .slice fa fn fc]) := (unhide HB4).fr f5 (fun e => e)
      have HW5 : Hid (Below w.heap.size w X5) := (unhide HW4).trans (hb5.mono (unhide HW4).size)
      have HPW5 := hide ((unhide HPW).fr f5 (fun _ _ e => e))
      have lb5 : w.heap.size < X5.heap.size := (unhide HA).lt
      have lc5 : X3.heap.size < X5.heap.size := (unhide HB5).lt
      have m0 := (unhide HA).cell (j := 0) rfl
      have m1 := (unhide HA).cell (j := 1) rfl
      have y0 := (unhide HA).free 0
      have y1 := (unhide HA).free 1
      have n0 := (unhide HB5).cell (j := 0) rfl
      have n1 := (unhide HB5).cell (j := 1) rfl
      obtain ⟨X6, eX6⟩ : ∃ X6, Hid (X6 = X5.alloc (.cells #[.int .i64 k, .int .i64 a] 46)) := ⟨_, rfl⟩
      have b56 : Below X5.heap.size X5 X6 := by rw [unhide eX6]; exact (Below.refl _ _).alloc (Nat.le_refl _) _
      have HW6 : Hid (Below w.heap.size w X6) := (unhide HW5).trans (b56.mono (unhide HW5).size)
      clear hb5 f5 b56
      by_cases q3 : y = 0
      · have hcn : ckF p.1 = none := by
          cases hc : ckF p.1 with
          | none => rfl
          | some e =>
            obtain ⟨k', a', y'⟩ := e
            have := unhide HRS
            rw [hc] at this
            simp only [rsV, Value.tuple.injEq] at this
            simp at this
            exact absurd (this.2.symm ▸ q3 : y' = 0) (ckF_ne hc)
        rw [hcn] at hz
        have d3 : (y != 0) = false := by simp [q3]
        clear q3
        go_wp2_with fail
        have hA6 := (((unhide HA).set (j := 0) (by omega) (.slice ca cn cc)).set (j := 1) (by omega) (.slice fa fn fc)).fr (S := fun _ => False) ((Fr.refl _ _).alloc (.cells #[.int .i64 k, .int .i64 a] 46)) (fun e => e)
        have g : Fr (fun k => k = w.heap.size) X5 (((X5.setCell ⟨w.heap.size, 0, none⟩ (.slice ca cn cc)).setCell ⟨w.heap.size, 1, none⟩ (.slice fa fn fc)).alloc (.cells #[.int .i64 k, .int .i64 a] 46)) := (((Fr.refl (fun k => k = w.heap.size) X5).setCell ⟨w.heap.size, 0, none⟩ (.inr rfl) _).setCell ⟨w.heap.size, 1, none⟩ (.inr rfl) _).alloc _
        refine bodyPost_ret (v := .tuple #[.agg #[.slice ca cn cc, .slice fa fn fc], .int .i64 0]) (by rw [results_ct (fn := Tryz.f19) (p := 2) (q := 3) (t1 := 25) rfl _ _ _ (a1 := ⟨w.heap.size, 0, none⟩) rfl (load27 hA6)]; rfl) rfl ?_
        rw [← unhide hz]
        exact ⟨_, _, _, _, _, _, rfl, (unhide HW5).trans (g.below (unhide HW5).size (fun k hk q => by omega)), fun _ => PW.low' ((unhide HPW5).fr g (fun k hk q => by have := unhide HW2s; omega)) (by have := unhide HW2s; omega), fun q => absurd rfl q⟩
      · have hcs : ∃ k' a', ckF p.1 = some (k', a', y) := by
          cases hc : ckF p.1 with
          | none =>
            have := unhide HRS
            rw [hc] at this
            simp only [rsV, Value.tuple.injEq] at this
            simp at this
            exact absurd this.2.symm q3
          | some e =>
            obtain ⟨k', a', y'⟩ := e
            have := unhide HRS
            rw [hc] at this
            simp only [rsV, Value.tuple.injEq] at this
            simp at this
            exact ⟨k', a', by rw [this.2]⟩
        obtain ⟨k', a', hcs⟩ := hcs
        rw [hcs] at hz
        have HE := hide q3
        have d3 : (y != 0) = true := by simp [q3]
        clear q3 hcs
        go_wp2_with fail
        have hA6 := (((unhide HA).set (j := 0) (by omega) (.slice none 0 0)).set (j := 1) (by omega) (.slice none 0 0)).fr (S := fun _ => False) ((Fr.refl _ _).alloc (.cells #[.int .i64 k, .int .i64 a] 46)) (fun e => e)
        have g : Fr (fun k => k = w.heap.size) X5 (((X5.setCell ⟨w.heap.size, 0, none⟩ (.slice none 0 0)).setCell ⟨w.heap.size, 1, none⟩ (.slice none 0 0)).alloc (.cells #[.int .i64 k, .int .i64 a] 46)) := (((Fr.refl (fun k => k = w.heap.size) X5).setCell ⟨w.heap.size, 0, none⟩ (.inr rfl) _).setCell ⟨w.heap.size, 1, none⟩ (.inr rfl) _).alloc _
        refine bodyPost_ret (v := .tuple #[.agg #[.slice none 0 0, .slice none 0 0], .int .i64 y]) (by rw [results_ct (fn := Tryz.f19) (p := 2) (q := 3) (t1 := 25) rfl _ _ _ (a1 := ⟨w.heap.size, 0, none⟩) rfl (load27 hA6)]; rfl) rfl ?_
        rw [← unhide hz]
        exact ⟨_, _, _, _, _, _, rfl, (unhide HW5).trans (g.below (unhide HW5).size (fun k hk q => by omega)), fun q => absurd q (unhide HE), fun _ => rfl⟩
    · rw [if_pos q2] at hz
      have HE := hide q2
      have d2 : (p.2 != 0) = true := by simp [q2]
      clear hf hpg q2
      go_wp2_with fail
      have hA6 := (((unhide HA).set (j := 0) (by omega) (.slice none 0 0)).set (j := 1) (by omega) (.slice none 0 0)).fr (S := fun _ => False) ((Fr.refl _ _).alloc (.cells #[.slice ca cn cc, .slice fa fn fc] 25)) (fun e => e)
      have g : Fr (fun k => k = w.heap.size) X3 (((X3.setCell ⟨w.heap.size, 0, none⟩ (.slice none 0 0)).setCell ⟨w.heap.size, 1, none⟩ (.slice none 0 0)).alloc (.cells #[.slice ca cn cc, .slice fa fn fc] 25)) := (((Fr.refl (fun k => k = w.heap.size) X3).setCell ⟨w.heap.size, 0, none⟩ (.inr rfl) _).setCell ⟨w.heap.size, 1, none⟩ (.inr rfl) _).alloc _
      refine bodyPost_ret (v := .tuple #[.agg #[.slice none 0 0, .slice none 0 0], .int .i64 p.2]) (by rw [results_ct (fn := Tryz.f19) (p := 2) (q := 3) (t1 := 25) rfl _ _ _ (a1 := ⟨w.heap.size, 0, none⟩) rfl (load27 hA6)]; rfl) rfl ?_
      rw [← unhide hz]
      exact ⟨_, _, _, _, _, _, rfl, (unhide HW3).trans (g.below (unhide HW3).size (fun k hk q => by omega)), fun q => absurd q (unhide HE), fun _ => rfl⟩
end Go.Proofs.YtlogmdldjmkkjaaGreatDoor
