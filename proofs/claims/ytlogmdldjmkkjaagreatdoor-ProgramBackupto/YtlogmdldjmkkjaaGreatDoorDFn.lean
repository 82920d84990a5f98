/-
  readFunc.
-/
import Derived.Test.YtlogmdldjmkkjaaGreatDoorDCn
namespace Go.Proofs.YtlogmdldjmkkjaaGreatDoor
open Go.RowKit
set_option linter.unusedVariables false
set_option linter.unusedSimpArgs false
theorem Tryz.info69 : (Tryz.prog.info? 69).map (fun i => (i.zero, i.size, i.bytes)) = some (some (.agg #[.int .i64 0, .int .i64 0, .string ByteArray.empty]), 3, 32) := by kernel_rfl
theorem wpList_appCn {w : World} {ops : Array Oper} {rest : List Oper} {o : Oper} {a : Act} {Q : Exit → Act → World → Prop}
    (hg : o.guard = none) (s x : Operand) (hop : o.op = Op.call { callee := Callee.builtin Builtin.append, args := #[s, x], argTypes := #[22, 22] })
    (v : Value) (n : Nat) (l : List Value) (hs : a.eval s = v) (hr : Ro w 3 v n l) (ad : Addr) (c : Nat) (k : Cn) (hx : a.eval x = .slice (some ad) 1 c) (hc : ∀ j u, (enC k)[j]? = some u → w.cell? (ad.add j) = some u)
    (hN : n < 1000000000)
    (hK : ∀ v' w', Ro w' 3 v' (n + 1) (l ++ enC k) → w.grownBy w' v.ownBlock → (v'.ownBlock = v.ownBlock ∨ v'.ownBlock = some w.heap.size) → wpList Tryz.prog ops Q rest (a.put o.dst v') w') :
    wpList Tryz.prog ops Q (o :: rest) a w := by
  obtain ⟨i0, hi0, hz0, hz1, hz2⟩ := info_parts Tryz.info69
  exact wpList_app hg s x 22 hop 69 i0 _ 3 32 Tryz.underlying22 hi0 hz0 hz1 hz2 rfl (by decide) v n l hs hr ad 1 c (enC k) hx rfl hc (by intro u hu; simp only [enC, List.mem_cons, List.not_mem_nil, or_false] at hu; rcases hu with rfl | rfl | rfl <;> rfl) (by omega) (by unfold maxLen; omega) (by omega) hK

set_option maxRecDepth 100000 in
set_option maxHeartbeats 3200000 in
theorem rdLC_any {w : World} {r rb : Nat} {s : Sr} (h : RS w r rb s) (hrb : rb < w.heap.size) (most : Int) (hm : most ≤ 100000) : Calls Tryz.prog 87 #[.pointer (some ⟨r, 0, none⟩), .int .i64 most, .func (Fn.func 88) #[] #[]] w fun e w' => ∃ la ln lc, RQ r rb w (.tuple #[.slice la ln lc, .int .i64 (rdL rdC most s).2.1]) (rdL rdC most s).2.2 e w' ∧ ((rdL rdC most s).2.1 = 0 → LG w 3 enC (rdL rdC most s).1 (.slice la ln lc) w') := by
  obtain ⟨z, hz⟩ : ∃ z, Hid (rdL rdC most s = z) := ⟨_, rfl⟩
  rw [unhide hz]
  unfold rdL at hz
  have H1 := hide (cnt_any h most (by omega))
  have hle := cnt_le most s
  generalize hcn : cnt most s = a at *
  obtain ⟨n, s1⟩ := a
  simp only at hz H1 hle
  have hn : n ≤ 100000 := by omega
  have hr := h.lt
  have HRB := hide hrb
  have HRL := hide hr
  clear hcn h hrb hle
  go_enter Tryz.func87, Tryz.ntmps87
  go_wp2_with fail
  refine (unhide H1).mono ?_
  rintro e W1 ⟨rfl, hs1, hf1⟩
  have HS1 := hide hs1
  have HF1 := hide hf1
  have HG1 : Hid (LG w 3 enC ([] : List Cn) (.slice none 0 0) W1) := ⟨by simpa [flt] using Ro.nil _ _, by simp [Value.ownBlock]⟩
  clear hs1 hf1 H1
  go_wp2_with fail
  go_loopg [8, 14] n (fun gg t8 t14 wr => ∃ (i : Nat) (acc : List Cn) (s : Sr), Hid (i + gg = n) ∧ t14 = .int .i64 (i : Int) ∧ Hid (acc.length = i) ∧ Hid (lp rdC gg acc s = z) ∧ Hid (LG w 3 enC acc t8 wr) ∧ Hid (RS wr r rb s) ∧ Hid (RFr r w wr))
  case atStart => exact ⟨0, [], s1, by unfold Hid; omega, rfl, rfl, hz, HG1, HS1, HF1⟩
  case round =>
    obtain ⟨i, acc, s, hi, rfl, hal, hl, hG, hS, hF⟩ := hrel
    by_cases hlt : i < n
    · obtain ⟨g, rfl⟩ : ∃ g, gk = g + 1 := ⟨gk - 1, by have := unhide hi; omega⟩
      have hl2 := unhide hl
      rw [lp] at hl2
      have hwr : Hid (w.heap.size ≤ wr.heap.size) := (unhide hF).size
      have HH := hide (rdC_any (unhide hS) (by have := unhide HRB; have := unhide hwr; omega))
      obtain ⟨q, hq⟩ : ∃ q, rdC s = q := ⟨_, rfl⟩
      rw [hq] at hl2 HH
      obtain ⟨⟨h1, h2, h3⟩, er, s2⟩ := q
      simp only at hl2 HH
      have HL2 := hide hl2
      have i2 : (i : Int) < (n : Int) := by omega
      clear hl2 hq
      go_wp2_with fail
      refine (unhide HH).mono ?_
      rintro e X ⟨rfl, hs, hf⟩
      have fx : Fr (fun _ => False) X (X.alloc (.cells #[.int .i64 h1, .int .i64 h2, .string h3] 69)) := (Fr.refl _ X).alloc _
      have HS2 : Hid (RS (X.alloc (.cells #[.int .i64 h1, .int .i64 h2, .string h3] 69)) r rb s2) := hs.fr fx (fun e => e) (fun e => e)
      have HF2 : Hid (RFr r w (X.alloc (.cells #[.int .i64 h1, .int .i64 h2, .string h3] 69))) := ((unhide hF).trans hf).alloc _
      by_cases he : er = 0
      · have HL3 : Hid (lp rdC g (acc ++ [⟨h1, h2, h3⟩]) s2 = z) := by
          have := unhide HL2
          rw [if_neg (by simp [he])] at this
          exact this
        have HGx : Hid (Ro ((X.alloc (.cells #[.int .i64 h1, .int .i64 h2, .string h3] 69)).alloc (.cells #[.int .i64 h1, .int .i64 h2, .string h3] 69)) 3 u8 i (flt enC acc)) := by
          have := (unhide hG).fr (hf.alloc (.cells #[.int .i64 h1, .int .i64 h2, .string h3] 69) |>.alloc (.cells #[.int .i64 h1, .int .i64 h2, .string h3] 69)) (fun k hk q => by have := unhide HRL; omega)
          have h5 := this.1
          rw [unhide hal] at h5
          exact h5
        have HNC : Hid (∀ j u', (enC ⟨h1, h2, h3⟩)[j]? = some u' → ((X.alloc (.cells #[.int .i64 h1, .int .i64 h2, .string h3] 69)).alloc (.cells #[.int .i64 h1, .int .i64 h2, .string h3] 69)).cell? ((⟨X.heap.size + 1, 0, none⟩ : Addr).add j) = some u') := by
          have := new_cells (X.alloc (.cells #[.int .i64 h1, .int .i64 h2, .string h3] 69)) #[.int .i64 h1, .int .i64 h2, .string h3] 69
          unfold Hid enC
          simpa using this
        have he1 : (er != 0) = false := by simp [he]
        have hXs : Hid (wr.heap.size ≤ X.heap.size) := hf.size
        clear hs hf fx he
        go_wp2_with (first | (at_builtin; refine wpList_appCn rfl _ _ rfl u8 i (flt enC acc) rfl (unhide HGx) ⟨X.heap.size + 1, 0, none⟩ 1 ⟨h1, h2, h3⟩ rfl (unhide HNC) (by omega) ?_; intro v' w2 hr hg hat))
        have f2 : Fr (fun k => u8.ownBlock = some k) (X.alloc (.cells #[.int .i64 h1, .int .i64 h2, .string h3] 69)) w2 := ((Fr.refl _ _).alloc _).grown hg (fun k e => .inr e)
        have nb : ∀ k, u8.ownBlock = some k → w.heap.size ≤ k := (unhide hG).2
        have HS3 : Hid (RS w2 r rb s2) := (unhide HS2).fr f2 (fun q => by have := nb r q; have := unhide HRL; omega) (fun q => by have := nb rb q; have := unhide HRB; omega)
        have HF3 : Hid (RFr r w w2) := (unhide HF2).stepw f2 (fun k hk q => by have := nb k q; omega)
        have HG3 : Hid (LG w 3 enC (acc ++ [⟨h1, h2, h3⟩]) v' w2) := (unhide hG).push (unhide hwr) hr (by rw [unhide hal]) (N := ((X.alloc (.cells #[.int .i64 h1, .int .i64 h2, .string h3] 69)).alloc (.cells #[.int .i64 h1, .int .i64 h2, .string h3] 69)).heap.size) (by simp; have := unhide hwr; have := unhide hXs; omega) hat
        clear hr hg hat f2 nb
        go_wp2_with fail
        go_roundg g
        case measure => omega
        case rel => exact ⟨i + 1, acc ++ [⟨h1, h2, h3⟩], s2, by have := unhide hi; unfold Hid; omega, by go_num, by rw [Hid, List.length_append, unhide hal]; rfl, HL3, HG3, HS3, HF3⟩
      · have HZ : Hid (z = ([], er, s2)) := by
          have := unhide HL2
          rw [if_pos he] at this
          exact this.symm
        have he1 : (er != 0) = true := by simp [he]
        have HE := hide he
        clear hs hf fx he
        go_wp2_with fail
        go_ret2
        rw [unhide HZ]
        exact ⟨_, _, _, ⟨rfl, unhide HS2, unhide HF2⟩, fun q => absurd q (unhide HE)⟩
    · have hg0 : gk = 0 := by have := unhide hi; omega
      subst hg0
      have i2 : ¬ (i : Int) < (n : Int) := by omega
      have HZ : Hid (z = (acc, s.2, s)) := (unhide hl).symm
      have HER := hide (err_any (unhide hS))
      obtain ⟨ga, gc, eg, -, -⟩ := (unhide hG).1.shape
      subst eg
      go_wp2_with fail
      refine (unhide HER).mono ?_
      rintro e X ⟨rfl, rfl⟩
      go_wp2_with fail
      go_ret2
      rw [unhide HZ]
      exact ⟨_, _, _, ⟨rfl, unhide hS, unhide hF⟩, fun _ => unhide hG⟩

set_option linter.unusedVariables false
set_option linter.unusedSimpArgs false

/-- A function, as it is read. -/
def rdF0 (s : Sr) : (ByteArray × Nat × Nat × List Int) × Sr :=
  let a := txt 32 s; let b := cnt 64 a.2; let c := cnt 64 b.2; let n := cnt 22000 c.2; let d := raw n.1 n.2
  ((a.1, b.1, c.1, d.1), d.2)
def rdF (s : Sr) : Fc × Int × Sr :=
  if errOf (dec (rdF0 s).1.2.2.2) ≠ 0 then (⟨ByteArray.empty, 0, 0, [], []⟩, errOf (dec (rdF0 s).1.2.2.2), (rdF0 s).2)
  else (⟨(rdF0 s).1.1, (rdF0 s).1.2.1, (rdF0 s).1.2.2.1, lstOf (dec (rdF0 s).1.2.2.2), (rdL rdH1 32 (rdF0 s).2).1⟩, (rdL rdH1 32 (rdF0 s).2).2.1, (rdL rdH1 32 (rdF0 s).2).2.2)
/-- These cells are this function, in lists that are new. -/
def FnW (w0 w : World) (f : Fc) (x : Fv) : Prop := x.name = f.name ∧ x.params = f.params ∧ x.locals = f.locals ∧ Ro w 2 x.cv f.code.length (flt enI f.code) ∧ Ro w 4 x.hv f.hs.length (flt enH f.hs) ∧ ∀ k, (x.cv.ownBlock = some k ∨ x.hv.ownBlock = some k) → w0.heap.size ≤ k
theorem load54 {w : World} {b : Nat} {x y u v z : Value} (h : Bx w 5 b [x, y, u, v, z]) : (loadVar 73 ⟨b, 0, none⟩).run Tryz.prog w = .ok (.agg #[x, y, u, v, z]) w := by
  have c0 := h.cell (j := 0) rfl
  have c1 := h.cell (j := 1) rfl
  have c2 := h.cell (j := 2) rfl
  have c3 := h.cell (j := 3) rfl
  have c4 := h.cell (j := 4) rfl
  go_simp
set_option maxRecDepth 100000 in
set_option maxHeartbeats 6400000 in
theorem rdF_any {w : World} {r rb : Nat} {s : Sr} (h : RS w r rb s) (hrb : rb < w.heap.size) : Calls Tryz.prog 90 #[.pointer (some ⟨r, 0, none⟩)] w fun e w' => ∃ nm pa lo ca cn cc ha hn hc, RQ r rb w (.tuple #[.agg #[.string nm, .int .i64 pa, .int .i64 lo, .slice ca cn cc, .slice ha hn hc], .int .i64 (rdF s).2.1]) (rdF s).2.2 e w' ∧ ((rdF s).2.1 = 0 → FnW w w' (rdF s).1 ⟨nm, pa, lo, .slice ca cn cc, .slice ha hn hc⟩) := by
  obtain ⟨z, hz⟩ : ∃ z, Hid (rdF s = z) := ⟨_, rfl⟩
  rw [unhide hz]
  unfold rdF rdF0 at hz
  simp only at hz
  have H1 := hide (fun (wx : World) (hx : RS wx r rb s) => txt_any hx 32 (by omega))
  generalize txt 32 s = a at *
  have H2 := hide (fun (wx : World) (hx : RS wx r rb a.2) => cnt_any hx 64 (by omega))
  generalize cnt 64 a.2 = b at *
  have H3 := hide (fun (wx : World) (hx : RS wx r rb b.2) => cnt_any hx 64 (by omega))
  generalize cnt 64 b.2 = c at *
  have H4 := hide (fun (wx : World) (hx : RS wx r rb c.2) => cnt_any hx 22000 (by omega))
  have hnl := cnt_le 22000 c.2
  generalize cnt 22000 c.2 = n at *
  have H5 := hide (fun (wx : World) (hx : RS wx r rb n.2) => rraw_any hx n.1)
  generalize raw n.1 n.2 = d at *
  have H6 := hide (fun (wx : World) (bv : Value) (hx : Rd wx bv d.1) (hB : BOk d.1) (hl : d.1.length ≤ 100000) => decode_any bv d.1 wx hx hB (by omega))
  generalize dec d.1 = dd at *
  have H7 := hide (fun (wx : World) (hx : RS wx r rb d.2) (hy : rb < wx.heap.size) => rdLH_any hx hy 32 (by omega))
  generalize rdL rdH1 32 d.2 = ll at *
  have hr := h.lt
  have HRB := hide hrb
  obtain ⟨W1, eW1⟩ : ∃ W1, Hid (W1 = (w.alloc (.cells #[.string ⟨#[]⟩, .int .i64 0, .int .i64 0, .slice none 0 0, .slice none 0 0] 73)).alloc (.cells #[.string ⟨#[]⟩, .int .i64 0, .int .i64 0, .slice none 0 0, .slice none 0 0] 73)) := ⟨_, rfl⟩
  have HB : Hid (Bx W1 5 (w.heap.size + 1) [.string ⟨#[]⟩, .int .i64 0, .int .i64 0, .slice none 0 0, .slice none 0 0]) := by rw [unhide eW1]; exact Bx.new rfl (by simp)
  have HA : Hid (Bx W1 5 w.heap.size [.string ⟨#[]⟩, .int .i64 0, .int .i64 0, .slice none 0 0, .slice none 0 0]) := by rw [unhide eW1]; exact (Bx.new rfl rfl).fr (S := fun _ => False) ((Fr.refl _ _).alloc _) (fun e => e)
  have HF : Hid (RFr r w W1) := by rw [unhide eW1]; exact ((Fr.refl _ w).alloc _).alloc _
  have HS : Hid (RS W1 r rb s) := h.fr (S := fun _ => False) (by rw [unhide eW1]; exact ((Fr.refl _ w).alloc _).alloc _) (fun e => e) (fun e => e)
  clear h hrb
  go_enter Tryz.func90, Tryz.ntmps90
  go_wp2_with fail
  rw [← unhide eW1]
  clear eW1
  refine (unhide H1 W1 (unhide HS)).mono ?_
  rintro e X2 ⟨rfl, hs, hf⟩
  have hb := (unhide HB).fr hf (by omega)
  have ha := (unhide HA).fr hf (by omega)
  have c0 := hb.cell (j := 0) rfl
  have z0 := hb.free 0
  obtain ⟨W2, eW2⟩ : ∃ W2, Hid (W2 = X2.setCell ⟨w.heap.size + 1, 0, none⟩ (.string a.1)) := ⟨_, rfl⟩
  have g : Fr (fun k => k = w.heap.size + 1) X2 W2 := by rw [unhide eW2]; exact fr_set _ _ _ _
  have HB : Hid (Bx W2 5 (w.heap.size + 1) [.string a.1, .int .i64 0, .int .i64 0, .slice none 0 0, .slice none 0 0]) := by rw [unhide eW2]; exact hb.set (by omega) _
  have HA : Hid (Bx W2 5 w.heap.size [.string ⟨#[]⟩, .int .i64 0, .int .i64 0, .slice none 0 0, .slice none 0 0]) := ha.fr g (by omega)
  have HS : Hid (RS W2 r rb a.2) := hs.fr g (by omega) (by have := unhide HRB; omega)
  have HF : Hid (RFr r w W2) := by rw [unhide eW2]; exact (Fr.setCell ((unhide HF).trans hf) ⟨w.heap.size + 1, 0, none⟩ (.inl (by show w.heap.size ≤ w.heap.size + 1; omega)) _)
  clear hs hf hb ha g
  go_wp2_with fail
  rw [← unhide eW2]
  clear eW2 c0 z0
  refine (unhide H2 W2 (unhide HS)).mono ?_
  rintro e X3 ⟨rfl, hs, hf⟩
  have hb := (unhide HB).fr hf (by omega)
  have ha := (unhide HA).fr hf (by omega)
  have c1 := hb.cell (j := 1) rfl
  have z1 := hb.free 1
  obtain ⟨W3, eW3⟩ : ∃ W3, Hid (W3 = X3.setCell ⟨w.heap.size + 1, 1, none⟩ (.int .i64 (b.1 : Int))) := ⟨_, rfl⟩
  have g : Fr (fun k => k = w.heap.size + 1) X3 W3 := by rw [unhide eW3]; exact fr_set _ _ _ _
  have HB : Hid (Bx W3 5 (w.heap.size + 1) [.string a.1, .int .i64 (b.1 : Int), .int .i64 0, .slice none 0 0, .slice none 0 0]) := by rw [unhide eW3]; exact hb.set (by omega) _
  have HA : Hid (Bx W3 5 w.heap.size [.string ⟨#[]⟩, .int .i64 0, .int .i64 0, .slice none 0 0, .slice none 0 0]) := ha.fr g (by omega)
  have HS : Hid (RS W3 r rb b.2) := hs.fr g (by omega) (by have := unhide HRB; omega)
  have HF : Hid (RFr r w W3) := by rw [unhide eW3]; exact (Fr.setCell ((unhide HF).trans hf) ⟨w.heap.size + 1, 1, none⟩ (.inl (by show w.heap.size ≤ w.heap.size + 1; omega)) _)
  clear hs hf hb ha g
  go_wp2_with fail
  rw [← unhide eW3]
  clear eW3 c1 z1
  refine (unhide H3 W3 (unhide HS)).mono ?_
  rintro e X4 ⟨rfl, hs, hf⟩
  have hb := (unhide HB).fr hf (by omega)
  have ha := (unhide HA).fr hf (by omega)
  have c2 := hb.cell (j := 2) rfl
  have z2 := hb.free 2
  obtain ⟨W4, eW4⟩ : ∃ W4, Hid (W4 = X4.setCell ⟨w.heap.size + 1, 2, none⟩ (.int .i64 (c.1 : Int))) := ⟨_, rfl⟩
  have g : Fr (fun k => k = w.heap.size + 1) X4 W4 := by rw [unhide eW4]; exact fr_set _ _ _ _
  have HB : Hid (Bx W4 5 (w.heap.size + 1) [.string a.1, .int .i64 (b.1 : Int), .int .i64 (c.1 : Int), .slice none 0 0, .slice none 0 0]) := by rw [unhide eW4]; exact hb.set (by omega) _
  have HA : Hid (Bx W4 5 w.heap.size [.string ⟨#[]⟩, .int .i64 0, .int .i64 0, .slice none 0 0, .slice none 0 0]) := ha.fr g (by omega)
  have HS : Hid (RS W4 r rb c.2) := hs.fr g (by omega) (by have := unhide HRB; omega)
  have HF : Hid (RFr r w W4) := by rw [unhide eW4]; exact (Fr.setCell ((unhide HF).trans hf) ⟨w.heap.size + 1, 2, none⟩ (.inl (by show w.heap.size ≤ w.heap.size + 1; omega)) _)
  clear hs hf hb ha g
  go_wp2_with fail
  rw [← unhide eW4]
  clear eW4 c2 z2
  refine (unhide H4 W4 (unhide HS)).mono ?_
  rintro e X5 ⟨rfl, hs, hf⟩
  have HB : Hid (Bx X5 5 (w.heap.size + 1) [.string a.1, .int .i64 (b.1 : Int), .int .i64 (c.1 : Int), .slice none 0 0, .slice none 0 0]) := (unhide HB).fr hf (by omega)
  have HA : Hid (Bx X5 5 w.heap.size [.string ⟨#[]⟩, .int .i64 0, .int .i64 0, .slice none 0 0, .slice none 0 0]) := (unhide HA).fr hf (by omega)
  have HF : Hid (RFr r w X5) := (unhide HF).trans hf
  have HS := hide hs
  clear hs hf
  go_wp2_with fail
  refine (unhide H5 X5 (unhide HS)).mono ?_
  rintro e X6 ⟨rv, ⟨rfl, hs, hf⟩, hrd, hbo, hrl⟩
  have HB : Hid (Bx X6 5 (w.heap.size + 1) [.string a.1, .int .i64 (b.1 : Int), .int .i64 (c.1 : Int), .slice none 0 0, .slice none 0 0]) := (unhide HB).fr hf (by omega)
  have HA : Hid (Bx X6 5 w.heap.size [.string ⟨#[]⟩, .int .i64 0, .int .i64 0, .slice none 0 0, .slice none 0 0]) := (unhide HA).fr hf (by omega)
  have HF : Hid (RFr r w X6) := (unhide HF).trans hf
  have HS := hide hs
  have H6' := hide (unhide H6 X6 rv hrd hbo (by omega))
  clear hs hf hrd hbo hrl
  go_wp2_with fail
  refine (unhide H6').mono ?_
  rintro e X7 ⟨cv, rfl, hgw⟩
  obtain ⟨ca, cc, rfl, _, _⟩ := hgw.1.shape
  have f7 : Fr (fun _ => False) X6 X7 := Fr.of_below hgw.2.1
  have hb := (unhide HB).fr f7 (fun e => e)
  have ha := (unhide HA).fr f7 (fun e => e)
  have hs := (unhide HS).fr f7 (fun e => e) (fun e => e)
  have HF7 : Hid (RFr r w X7) := (unhide HF).trans (Fr.of_below hgw.2.1)
  have HC7 : Hid (Ro X7 2 (.slice ca (lstOf dd).length cc) (lstOf dd).length (flt enI (lstOf dd)) ∧ ∀ k, (Value.slice ca (lstOf dd).length cc).ownBlock = some k → w.heap.size + 2 ≤ k) := ⟨hgw.1, fun k hk => by have := hgw.2.2 k hk; have := (unhide HB).lt; omega⟩
  have HB7 := hide hb
  have HA7 := hide ha
  have HS7 := hide hs
  clear hgw f7 HB HA HS HF H6'
  by_cases he : errOf dd = 0
  · have d0 : (errOf dd != 0) = false := by simp [he]
    have HZ : Hid (z = (⟨a.1, b.1, c.1, lstOf dd, ll.1⟩, ll.2.1, ll.2.2)) := by
      have := unhide hz
      rw [if_neg (by simp [he])] at this
      exact this.symm
    have c3 := hb.cell (j := 3) rfl
    have z3 := hb.free 3
    obtain ⟨W8, eW8⟩ : ∃ W8, Hid (W8 = X7.setCell ⟨w.heap.size + 1, 3, none⟩ (.slice ca (lstOf dd).length cc)) := ⟨_, rfl⟩
    have g : Fr (fun k => k = w.heap.size + 1) X7 W8 := by rw [unhide eW8]; exact fr_set _ _ _ _
    have HB : Hid (Bx W8 5 (w.heap.size + 1) [.string a.1, .int .i64 (b.1 : Int), .int .i64 (c.1 : Int), .slice ca (lstOf dd).length cc, .slice none 0 0]) := by rw [unhide eW8]; exact hb.set (by omega) _
    have HA : Hid (Bx W8 5 w.heap.size [.string ⟨#[]⟩, .int .i64 0, .int .i64 0, .slice none 0 0, .slice none 0 0]) := ha.fr g (by omega)
    have HS : Hid (RS W8 r rb d.2) := hs.fr g (by omega) (by have := unhide HRB; omega)
    have HF : Hid (RFr r w W8) := by rw [unhide eW8]; exact (Fr.setCell (unhide HF7) ⟨w.heap.size + 1, 3, none⟩ (.inl (by show w.heap.size ≤ w.heap.size + 1; omega)) _)
    have HC8 : Hid (Ro W8 2 (.slice ca (lstOf dd).length cc) (lstOf dd).length (flt enI (lstOf dd))) := (unhide HC7).1.fr g (fun k hk q => by have := (unhide HC7).2 k hk; omega)
    clear hs hb ha g he
    go_wp2_with fail
    rw [← unhide eW8]
    clear eW8 c3 z3
    refine (unhide H7 W8 (unhide HS) (by have := unhide HRB; have := (unhide HF).size; omega)).mono ?_
    rintro e X9 ⟨la, ln, lc, ⟨rfl, hs, hf⟩, hlg⟩
    have hb := (unhide HB).fr hf (by omega)
    have ha := (unhide HA).fr hf (by omega)
    have c4 := hb.cell (j := 4) rfl
    have z4 := hb.free 4
    have n0 := hb.cell (j := 0) rfl
    have n1 := hb.cell (j := 1) rfl
    have n2 := hb.cell (j := 2) rfl
    have n3 := hb.cell (j := 3) rfl
    have m0 := ha.cell (j := 0) rfl
    have m1 := ha.cell (j := 1) rfl
    have m2 := ha.cell (j := 2) rfl
    have m3 := ha.cell (j := 3) rfl
    have m4 := ha.cell (j := 4) rfl
    have y0 := ha.free 0
    have y1 := ha.free 1
    have y2 := ha.free 2
    have y3 := ha.free 3
    have y4 := ha.free 4
    have hsz8 : w.heap.size + 2 ≤ W8.heap.size := by have := (unhide HB).lt; omega
    obtain ⟨W9, eW9⟩ : ∃ W9, Hid (W9 = X9.setCell ⟨w.heap.size + 1, 4, none⟩ (.slice la ln lc)) := ⟨_, rfl⟩
    have g : Fr (fun k => k = w.heap.size + 1) X9 W9 := by rw [unhide eW9]; exact fr_set _ _ _ _
    have HB : Hid (Bx W9 5 (w.heap.size + 1) [.string a.1, .int .i64 (b.1 : Int), .int .i64 (c.1 : Int), .slice ca (lstOf dd).length cc, .slice la ln lc]) := by rw [unhide eW9]; exact hb.set (by omega) _
    have HA : Hid (Bx W9 5 w.heap.size [.string ⟨#[]⟩, .int .i64 0, .int .i64 0, .slice none 0 0, .slice none 0 0]) := ha.fr g (by omega)
    have HS : Hid (RS W9 r rb ll.2.2) := hs.fr g (by omega) (by have := unhide HRB; omega)
    have HF : Hid (RFr r w W9) := by rw [unhide eW9]; exact (Fr.setCell ((unhide HF).trans hf) ⟨w.heap.size + 1, 4, none⟩ (.inl (by show w.heap.size ≤ w.heap.size + 1; omega)) _)
    have HC9 : Hid (Ro W9 2 (.slice ca (lstOf dd).length cc) (lstOf dd).length (flt enI (lstOf dd))) := ((unhide HC8).fr hf (fun k hk q => by have := (unhide HC7).2 k hk; omega)).fr g (fun k hk q => by have := (unhide HC7).2 k hk; omega)
    have HL9 : Hid (ll.2.1 = 0 → Ro W9 4 (.slice la ln lc) ll.1.length (flt enH ll.1) ∧ ∀ k, (Value.slice la ln lc).ownBlock = some k → w.heap.size + 2 ≤ k) := fun q => by
      have h8 := hlg q
      have hsz := hsz8
      exact ⟨h8.1.fr g (fun k hk q2 => by have := h8.2 k hk; omega), fun k hk => by have := h8.2 k hk; omega⟩
    clear hs hf hb ha g hlg
    go_wp2_with fail
    rw [← unhide eW9]
    have g : Fr (fun k => k = w.heap.size) W9 (((((W9.setCell ⟨w.heap.size, 0, none⟩ (.string a.1)).setCell ⟨w.heap.size, 1, none⟩ (.int .i64 (b.1 : Int))).setCell ⟨w.heap.size, 2, none⟩ (.int .i64 (c.1 : Int))).setCell ⟨w.heap.size, 3, none⟩ (.slice ca (lstOf dd).length cc)).setCell ⟨w.heap.size, 4, none⟩ (.slice la ln lc)) := ((((((Fr.refl (fun k => k = w.heap.size) W9).setCell ⟨w.heap.size, 0, none⟩ (.inr rfl) _).setCell ⟨w.heap.size, 1, none⟩ (.inr rfl) _).setCell ⟨w.heap.size, 2, none⟩ (.inr rfl) _).setCell ⟨w.heap.size, 3, none⟩ (.inr rfl) _).setCell ⟨w.heap.size, 4, none⟩ (.inr rfl) _)
    have hA6 := ((((((unhide HA).set (j := 0) (by omega) (.string a.1)).set (j := 1) (by omega) (.int .i64 (b.1 : Int))).set (j := 2) (by omega) (.int .i64 (c.1 : Int))).set (j := 3) (by omega) (.slice ca (lstOf dd).length cc)).set (j := 4) (by omega) (.slice la ln lc))
    refine bodyPost_ret (v := .tuple #[.agg #[.string a.1, .int .i64 (b.1 : Int), .int .i64 (c.1 : Int), .slice ca (lstOf dd).length cc, .slice la ln lc], .int .i64 ll.2.1]) (by rw [results_ct (fn := Tryz.f90) (p := 2) (q := 3) (t1 := 73) rfl _ _ _ (a1 := ⟨w.heap.size, 0, none⟩) rfl (load54 hA6)]; rfl) rfl ?_
    rw [unhide HZ]
    refine ⟨_, _, _, _, _, _, _, _, _, ⟨rfl, (unhide HS).fr g (by omega) (by have := unhide HRB; omega), ((((((unhide HF).setCell ⟨w.heap.size, 0, none⟩ (.inl (Nat.le_refl _)) _).setCell ⟨w.heap.size, 1, none⟩ (.inl (Nat.le_refl _)) _).setCell ⟨w.heap.size, 2, none⟩ (.inl (Nat.le_refl _)) _).setCell ⟨w.heap.size, 3, none⟩ (.inl (Nat.le_refl _)) _).setCell ⟨w.heap.size, 4, none⟩ (.inl (Nat.le_refl _)) _)⟩, fun q => ?_⟩
    obtain ⟨l1, l2⟩ := unhide HL9 q
    refine ⟨rfl, rfl, rfl, (unhide HC9).fr g (fun k hk q2 => by have := (unhide HC7).2 k hk; omega), l1.fr g (fun k hk q2 => by have := l2 k hk; omega), fun k hk => ?_⟩
    rcases hk with hk | hk
    · have := (unhide HC7).2 k hk; omega
    · have := l2 k hk; omega
  · have d0 : (errOf dd != 0) = true := by simp [he]
    have HZ : Hid (z = (⟨ByteArray.empty, 0, 0, [], []⟩, errOf dd, d.2)) := by
      have := unhide hz
      rw [if_pos he] at this
      exact this.symm
    have HE := hide he
    have m0 := ha.cell (j := 0) rfl
    have m1 := ha.cell (j := 1) rfl
    have m2 := ha.cell (j := 2) rfl
    have m3 := ha.cell (j := 3) rfl
    have m4 := ha.cell (j := 4) rfl
    have y0 := ha.free 0
    have y1 := ha.free 1
    have y2 := ha.free 2
    have y3 := ha.free 3
    have y4 := ha.free 4
    clear hs hb ha he
    go_wp2_with fail
    have g : Fr (fun k => k = w.heap.size) X7 (((((X7.setCell ⟨w.heap.size, 0, none⟩ (.string ⟨#[]⟩)).setCell ⟨w.heap.size, 1, none⟩ (.int .i64 0)).setCell ⟨w.heap.size, 2, none⟩ (.int .i64 0)).setCell ⟨w.heap.size, 3, none⟩ (.slice none 0 0)).setCell ⟨w.heap.size, 4, none⟩ (.slice none 0 0)) := ((((((Fr.refl (fun k => k = w.heap.size) X7).setCell ⟨w.heap.size, 0, none⟩ (.inr rfl) _).setCell ⟨w.heap.size, 1, none⟩ (.inr rfl) _).setCell ⟨w.heap.size, 2, none⟩ (.inr rfl) _).setCell ⟨w.heap.size, 3, none⟩ (.inr rfl) _).setCell ⟨w.heap.size, 4, none⟩ (.inr rfl) _)
    have hA6 := ((((((unhide HA7).set (j := 0) (by omega) (.string ⟨#[]⟩)).set (j := 1) (by omega) (.int .i64 0)).set (j := 2) (by omega) (.int .i64 0)).set (j := 3) (by omega) (.slice none 0 0)).set (j := 4) (by omega) (.slice none 0 0))
    refine bodyPost_ret (v := .tuple #[.agg #[.string ⟨#[]⟩, .int .i64 0, .int .i64 0, .slice none 0 0, .slice none 0 0], .int .i64 (errOf dd)]) (by rw [results_ct (fn := Tryz.f90) (p := 2) (q := 3) (t1 := 73) rfl _ _ _ (a1 := ⟨w.heap.size, 0, none⟩) rfl (load54 hA6)]; rfl) rfl ?_
    rw [unhide HZ]
    exact ⟨_, _, _, _, _, _, _, _, _, ⟨rfl, (unhide HS7).fr g (by omega) (by have := unhide HRB; omega), ((((((unhide HF7).setCell ⟨w.heap.size, 0, none⟩ (.inl (Nat.le_refl _)) _).setCell ⟨w.heap.size, 1, none⟩ (.inl (Nat.le_refl _)) _).setCell ⟨w.heap.size, 2, none⟩ (.inl (Nat.le_refl _)) _).setCell ⟨w.heap.size, 3, none⟩ (.inl (Nat.le_refl _)) _).setCell ⟨w.heap.size, 4, none⟩ (.inl (Nat.le_refl _)) _)⟩, fun q => absurd q (unhide HE)⟩
end Go.Proofs.YtlogmdldjmkkjaaGreatDoor
