/-
  outer, of two lists that lie apart.
-/
import Derived.Test.YtbkfnmkfbdoadaaGreatDoorTApt1
import Derived.Deep.RegionHeld3
namespace Go.Proofs.YtbkfnmkfbdoadaaGreatDoor
open Go.RowKit
set_option linter.unusedVariables false
set_option linter.unusedSimpArgs false

/-- A row of one number, in a block where no list lies. -/
def One (x : Int) (w : World) (L : Nat → Prop) (v : Value) : Prop := ∃ b, v = .slice (some ⟨b, 0, none⟩) 1 1 ∧ w.cell? ⟨b, 0, none⟩ = some (.int .i64 x) ∧ ¬ L b
theorem One.fr {x : Int} {w w' : World} {L L' S : Nat → Prop} {v : Value} (h : One x w L v) (f : Fr S w w') (hs : ∀ b, S b → L b) (hl : ∀ b, b < w.heap.size → L' b → L b) : One x w' L' v := by
  obtain ⟨b, e, hc, hn⟩ := h
  have hb := World.block_lt_of_cell? _ _ hc
  exact ⟨b, e, (f.cell (a := ⟨b, 0, none⟩) hb (fun q => hn (hs b q))).trans hc, fun q => hn (hl b hb q)⟩
/-- One list: av as it came, gv as it is now. -/
structure HL (w : World) (L : Nat → Prop) (av gv : Value) (n i k : Nat) (x y : Int) (xs ys : List Value) : Prop where
  ra : Rx w 1 av n xs
  rg : Ro w 1 gv (n + k) (xs ++ ys)
  ly : ys.length = k
  ex : ∀ (j : Nat) (v : Value), j < i → xs[j]? = some v → One x w L v
  ey : ∀ (j : Nat) (v : Value), ys[j]? = some v → One y w L v
theorem snoc_at0 {T : Type} {l : List T} {t y : T} {k : Nat} (hy : (l ++ [t])[k]? = some y) : l[k]? = some y ∨ y = t := by
  by_cases q : k < l.length
  · rw [List.getElem?_append_left q] at hy; exact .inl hy
  · rw [List.getElem?_append_right (by omega)] at hy
    cases e : k - l.length with
    | zero => rw [e] at hy; exact .inr (by simpa using hy.symm)
    | succ q => rw [e] at hy; simp at hy
/-- Both lists. -/
def Lo (gv hv : Value) (b : Nat) : Prop := gv.ownBlock = some b ∨ hv.ownBlock = some b
structure OS (w0 : World) (av gv bv hv : Value) (n i k m j l : Nat) (x y u z : Int) (xs ys us zs : List Value) (w : World) : Prop where
  A : HL w (Lo gv hv) av gv n i k x y xs ys
  B : HL w (Lo gv hv) bv hv m j l u z us zs
  la : ∀ b, av.ownBlock = some b → b < w0.heap.size
  lb : ∀ b, bv.ownBlock = some b → b < w0.heap.size
  ab : ∀ b, av.ownBlock = some b → bv.ownBlock ≠ some b
  ca : pre av gv ∨ ∀ b, gv.ownBlock = some b → w0.heap.size ≤ b
  cb : pre bv hv ∨ ∀ b, hv.ownBlock = some b → w0.heap.size ≤ b
  gh : ∀ b, gv.ownBlock = some b → hv.ownBlock ≠ some b
  fr : Fr (fun b => av.ownBlock = some b ∨ bv.ownBlock = some b) w0 w
section
variable {w0 w w2 : World} {av gv bv hv gv' : Value} {n i k m j l : Nat} {x y u z : Int} {xs ys us zs : List Value}
theorem Lo.swap {gv hv : Value} : Lo gv hv = Lo hv gv := by funext b; unfold Lo; exact propext (or_comm)
theorem OS.swap (h : OS w0 av gv bv hv n i k m j l x y u z xs ys us zs w) : OS w0 bv hv av gv m j l n i k u z x y us zs xs ys w :=
  ⟨Lo.swap ▸ h.B, Lo.swap ▸ h.A, h.lb, h.la, fun b h1 h2 => h.ab b h2 h1, h.cb, h.ca, fun b h1 h2 => h.gh b h2 h1, h.fr.mono (fun _ _ q => q.symm)⟩
theorem OS.bg (h : OS w0 av gv bv hv n i k m j l x y u z xs ys us zs w) {b : Nat} (hb : bv.ownBlock = some b) : gv.ownBlock ≠ some b := by
  intro q
  rcases h.ca with p | p
  · exact h.ab b (p.block.trans q) hb
  · have := p b q; have := h.lb b hb; omega
theorem HL.fr {L L' S : Nat → Prop} (h : HL w L av gv n i k x y xs ys) (f : Fr S w w2) (hs : ∀ b, S b → L b) (hl : ∀ b, b < w.heap.size → L' b → L b) (h1 : ∀ b, av.ownBlock = some b → ¬ S b) (h2 : ∀ b, gv.ownBlock = some b → ¬ S b) : HL w2 L' av gv n i k x y xs ys :=
  ⟨h.ra.fr f h1, h.rg.fr f h2, h.ly, fun j v hj hv => (h.ex j v hj hv).fr f hs hl, fun j v hv => (h.ey j v hv).fr f hs hl⟩
/-- Where the next row goes. -/
theorem OS.cell (h : OS w0 av av bv hv n i 0 m j l x y u z xs [] us zs w) (hi : i < n) : ∃ g off cap v, av = .slice (some ⟨g, off, none⟩) n cap ∧ w.cell? ⟨g, off + i, none⟩ = some v ∧ w.frozen? ⟨g, off + i, none⟩ = false ∧ g < w.heap.size := by
  have hr := h.A.rg
  rw [List.append_nil, Nat.add_zero] at hr
  obtain ⟨g, off, cap, e, _, _, hg, hc⟩ := hr.full (by omega)
  have hl := hr.1
  refine ⟨g, off, cap, _, e, (hc i (by omega)).trans (List.getElem?_eq_getElem (by omega)), hr.free e _, hg⟩
theorem OS.store {g off cap : Nat} (h : OS w0 av av bv hv n i 0 m j l x y u z xs [] us zs w) (hi : i < n) (e : av = .slice (some ⟨g, off, none⟩) n cap) :
    OS w0 av av bv hv n (i + 1) 0 m j l x y u z (xs.set i (.slice (some ⟨w.heap.size, 0, none⟩) 1 1)) [] us zs ((w.alloc (.cells #[.int .i64 x] 3)).setCell ⟨g, off + i, none⟩ (.slice (some ⟨w.heap.size, 0, none⟩) 1 1)) := by
  have eb : av.ownBlock = some g := by rw [e]; rfl
  have hr := h.A.rg
  rw [List.append_nil, Nat.add_zero] at hr
  have hl := hr.1
  have hgl := hr.lt g eb
  have f1 : Fr (fun b => b = g) w (w.alloc (.cells #[.int .i64 x] 3)) := (Fr.refl _ w).alloc _
  have f2 : Fr (fun b => b = g) w ((w.alloc (.cells #[.int .i64 x] 3)).setCell ⟨g, off + i, none⟩ (.slice (some ⟨w.heap.size, 0, none⟩) 1 1)) := f1.setCell _ (.inr rfl) _
  have hr1 : Ro (w.alloc (.cells #[.int .i64 x] 3)) 1 (.slice (some ⟨g, off, none⟩) n cap) n xs := e ▸ hr.fr (S := fun _ => False) ((Fr.refl _ w).alloc _) (fun _ _ q => q)
  have hr2 := hr1.sets (v := .slice (some ⟨g, off, none⟩) n cap) rfl (o := off + i) (m := n) (vs := [.slice (some ⟨w.heap.size, 0, none⟩) 1 1]) (ys := xs.set i (.slice (some ⟨w.heap.size, 0, none⟩) 1 1)) (by omega) (by obtain ⟨_, _, q, hc, _⟩ := hr1.shape; cases q; simp; omega) (by obtain ⟨_, _, q, hc, _⟩ := hr1.shape; cases q; exact hc) (by rw [List.length_set]; exact hl) (fun t ht => by
    by_cases q : t = i
    · subst q; rw [if_pos (by simp), List.getElem?_set_self (by omega)]; simp
    · rw [if_neg (by simp; omega), List.getElem?_set_ne (by omega)]) (fun t ht q => by omega)
  have hr3 : Ro ((w.alloc (.cells #[.int .i64 x] 3)).setCell ⟨g, off + i, none⟩ (.slice (some ⟨w.heap.size, 0, none⟩) 1 1)) 1 av n (xs.set i (.slice (some ⟨w.heap.size, 0, none⟩) 1 1)) := by rw [e]; exact hr2.1
  have hsl : ∀ b, b = g → Lo av hv b := fun b q => .inl (by rw [q]; exact eb)
  refine ⟨⟨Rx.of_ro hr3, by rw [List.append_nil, Nat.add_zero]; exact hr3, rfl, fun t v ht hv' => ?_, fun t v hv' => by simp at hv'⟩, h.B.fr f2 hsl (fun _ _ q => q) (fun b hb q => h.ab b (by rw [q]; exact eb) hb) (fun b hb q => h.gh b (by rw [q]; exact eb) hb), h.la, h.lb, h.ab, h.ca, h.cb, h.gh, h.fr.step f2 (fun b _ q => .inl (by rw [q]; exact eb))⟩
  by_cases q : t = i
  · subst q
    rw [List.getElem?_set_self (by omega)] at hv'
    cases hv'
    refine ⟨w.heap.size, rfl, ?_, fun q => ?_⟩
    · rw [World.cell?_setCell_other _ _ _ _ (by intro q; have := congrArg Addr.block q; simp at this; omega)]
      simp only [World.cell?, heap_alloc_new]; rfl
    · rcases q with q | q
      · have := hr.lt _ q; omega
      · have := h.B.rg.lt _ q; omega
  · rw [List.getElem?_set_ne (by omega)] at hv'
    exact (h.A.ex t v (by omega) hv').fr f2 hsl (fun _ _ q => q)
/-- A row more behind the first list. -/
theorem OS.push {o : Obj} (h : OS w0 av gv bv hv n i k m j l x y u z xs ys us zs w)
    (hown : Ro w2 1 gv' (n + k + 1) (xs ++ ys ++ [.slice (some ⟨w.heap.size, 0, none⟩) 1 1])) (hg : ((w.alloc (.cells #[.int .i64 y] 3)).alloc o).grownBy w2 gv.ownBlock)
    (hat : (∃ q d, gv = .slice (some q) (n + k) d ∧ gv' = .slice (some q) (n + k + 1) d) ∨ gv'.ownBlock = some (w.heap.size + 2)) (hR : Ro w2 1 gv (n + k) (xs ++ ys)) :
    OS w0 av gv' bv hv n i (k + 1) m j l x y u z xs (ys ++ [.slice (some ⟨w.heap.size, 0, none⟩) 1 1]) us zs w2 := by
  have hat2 : gv'.ownBlock = gv.ownBlock ∨ gv'.ownBlock = some (w.heap.size + 2) := by
    rcases hat with ⟨q, d, e1, e2⟩ | q
    · exact .inl (by rw [e1, e2]; rfl)
    · exact .inr q
  have f : Fr (fun b => gv.ownBlock = some b) w w2 := (((Fr.refl _ w).alloc _).alloc o).grown hg (fun b e => .inr e)
  have hws := h.fr.size
  have hxl := h.A.ra.1
  have hsl : ∀ b, gv.ownBlock = some b → Lo gv hv b := fun b q => .inl q
  have hll : ∀ b, b < w.heap.size → Lo gv' hv b → Lo gv hv b := fun b hb q => by
    rcases q with q | q
    · rcases hat2 with p | p
      · exact .inl (p.symm.trans q)
      · rw [p] at q; simp at q; omega
    · exact .inr q
  have hnew : w2.cell? ⟨w.heap.size, 0, none⟩ = some (.int .i64 y) := by
    have hb : w2.heap[w.heap.size]? = ((w.alloc (.cells #[.int .i64 y] 3)).alloc o).heap[w.heap.size]? := hg.block _ (by simp; omega) (fun q => by have := h.A.rg.lt _ q.symm; omega)
    rw [World.cell?_of_block hb, World.cell?_of_block (Below.heap_alloc _ _ _ (by simp))]
    simp only [World.cell?, heap_alloc_new]; rfl
  refine ⟨⟨?_, by rw [← Nat.add_assoc, ← List.append_assoc]; exact hown, by rw [List.length_append, h.A.ly]; rfl, fun t v ht hv' => (h.A.ex t v ht hv').fr f hsl hll, fun t v hv' => ?_⟩, h.B.fr f hsl hll (fun b hb q => h.bg hb q) (fun b hb q => h.gh b q hb), h.la, h.lb, h.ab, ?_, h.cb, fun b h1 h2 => ?_, ?_⟩
  · rcases h.ca with q | q
    · refine (Rx.of_ro hR).pre q h.A.ra (by omega) ?_
      rw [List.take_append_of_le_length (by omega), List.take_of_length_le (by omega)]
    · exact h.A.ra.fr f (fun b hb e2 => by have := q b e2; have := h.la b hb; omega)
  · rcases snoc_at0 hv' with q | q
    · exact (h.A.ey t v q).fr f hsl hll
    · subst q
      refine ⟨w.heap.size, rfl, hnew, fun q => ?_⟩
      rcases q with q | q
      · rcases hat2 with p | p
        · have := h.A.rg.lt _ (p.symm.trans q); omega
        · rw [p] at q; simp at q
      · have := h.B.rg.lt _ q; omega
  · rcases hat with ⟨q, d, e1, e2⟩ | q
    · rcases h.ca with p | p
      · obtain ⟨a, n1, c1, m1, d1, p1, p2⟩ := p
        rw [e1] at p2
        cases p2
        exact .inl ⟨_, _, _, _, _, p1, e2⟩
      · exact .inr (fun b hb => p b (by rw [e1]; rw [e2] at hb; exact hb))
    · exact .inr (fun b hb => by rw [q] at hb; simp at hb; omega)
  · rcases hat2 with p | p
    · exact h.gh b (p.symm.trans h1) h2
    · have := h.B.rg.lt _ h2
      rw [p] at h1; simp at h1; omega
  · refine (((h.fr.alloc _).alloc o)).grown hg (fun b e => ?_)
    rcases h.ca with q | q
    · exact .inr (.inl (q.block.trans e))
    · exact .inl (q b e)
/-- What is read behind all. -/
theorem HL.old {L : Nat → Prop} (h : HL w L av gv n n k x y xs ys) {t : Nat} (ht : t < n) : ∃ a off cap b, av = .slice (some ⟨a, off, none⟩) n cap ∧ w.cell? ⟨a, off + t, none⟩ = some (.slice (some ⟨b, 0, none⟩) 1 1) ∧ w.cell? ⟨b, 0, none⟩ = some (.int .i64 x) := by
  obtain ⟨h1, a, cap, e, _, _, h4⟩ := h.ra
  obtain ⟨b, off, e2, hb, hc⟩ := h4 (by omega)
  subst e2
  have hx : xs[t]? = some (xs[t]'(by omega)) := List.getElem?_eq_getElem (by omega)
  obtain ⟨b2, e3, hc2, _⟩ := h.ex t _ ht hx
  exact ⟨b, off, cap, b2, e, by rw [hc t (by omega), hx, e3], hc2⟩
theorem HL.now {L : Nat → Prop} (h : HL w L av gv n n k x y xs ys) {t : Nat} (ht : t < n + k) : ∃ a off cap b, gv = .slice (some ⟨a, off, none⟩) (n + k) cap ∧ w.cell? ⟨a, off + t, none⟩ = some (.slice (some ⟨b, 0, none⟩) 1 1) ∧ w.cell? ⟨b, 0, none⟩ = some (.int .i64 (if t < n then x else y)) := by
  obtain ⟨a, off, cap, e, _, _, hg, hc⟩ := h.rg.full (by omega)
  have hxl := h.ra.1
  have hyl := h.ly
  have hk := hc t (by omega)
  by_cases q : t < n
  · rw [List.getElem?_append_left (by omega)] at hk
    have hx : xs[t]? = some (xs[t]'(by omega)) := List.getElem?_eq_getElem (by omega)
    obtain ⟨b2, e3, hc2, _⟩ := h.ex t _ q hx
    exact ⟨a, off, cap, b2, e, by rw [hk, hx, e3], by rw [if_pos q]; exact hc2⟩
  · rw [List.getElem?_append_right (by omega)] at hk
    have hx : ys[t - xs.length]? = some (ys[t - xs.length]'(by omega)) := List.getElem?_eq_getElem (by omega)
    obtain ⟨b2, e3, hc2, _⟩ := h.ey _ _ hx
    exact ⟨a, off, cap, b2, e, by rw [hk, hx, e3], by rw [if_neg q]; exact hc2⟩
end

set_option linter.unusedVariables false
set_option linter.unusedSimpArgs false

theorem wpList_appLK {w : World} {ops : Array Oper} {rest : List Oper} {o : Oper} {a : Act} {Q : Exit → Act → World → Prop}
    (hg : o.guard = none) (s x : Operand) (hop : o.op = Op.call { callee := Callee.builtin Builtin.append, args := #[s, x], argTypes := #[26, 26] })
    (v : Value) (n : Nat) (l : List Value) (hs : a.eval s = v) (hr : Ro w 1 v n l) (ad : Addr) (c : Nat) (k : Value) (hk : k.oneCell' = true) (hx : a.eval x = .slice (some ad) 1 c) (hc : ∀ j u, [k][j]? = some u → w.cell? (ad.add j) = some u)
    (hN : n < 1000000000)
    (hK : ∀ v' w', Ro w' 1 v' (n + 1) (l ++ [k]) → w.grownBy w' v.ownBlock → ((∃ q d, v = .slice (some q) n d ∧ v' = .slice (some q) (n + 1) d) ∨ v'.ownBlock = some w.heap.size) → Ro w' 1 v n l → wpList Tryz.prog ops Q rest (a.put o.dst v') w') :
    wpList Tryz.prog ops Q (o :: rest) a w := by
  obtain ⟨i0, hi0, hz0, hz1, hz2⟩ := info_parts Tryz.info27
  refine wpList_plain hg fun K hK' => ?_
  obtain ⟨v', w', hrun, r1, r2, r3, r4⟩ := Ro.appK (P := Tryz.prog) 26 o.type 27 i0 _ 1 24 Tryz.underlying26 hi0 hz0 hz1 hz2 rfl (by decide) hr ad 1 c [k] rfl hc (by simpa using hk) (by omega) (by unfold maxLen; omega) (by omega)
  unfold Oper.wp
  simp [execOp, hop, resolve, invoke, builtin, hs, hx, hrun, Result.andThen]
  exact hK' _ _ (hK v' w' r1 r2 r3 r4)
/-- Ahead of all. -/
theorem OS.first {w : World} {av bv : Value} {n m : Nat} {xs us : List Value} (ha : Ro w 1 av n xs) (hb : Ro w 1 bv m us) (hab : ∀ b, av.ownBlock = some b → bv.ownBlock ≠ some b) (x y u z : Int) : OS w av av bv bv n 0 0 m 0 0 x y u z xs [] us [] w := by
  obtain ⟨a, ca, ea, _, _⟩ := ha.shape
  obtain ⟨b, cb, eb, _, _⟩ := hb.shape
  exact ⟨⟨Rx.of_ro ha, by rw [List.append_nil]; exact ha, rfl, fun j v hj => by omega, fun j v hj => by simp at hj⟩, ⟨Rx.of_ro hb, by rw [List.append_nil]; exact hb, rfl, fun j v hj => by omega, fun j v hj => by simp at hj⟩, ha.lt, hb.lt, hab, .inl ⟨_, _, _, _, _, ea, ea⟩, .inl ⟨_, _, _, _, _, eb, eb⟩, hab, Fr.refl _ _⟩

set_option maxHeartbeats 6400000 in
set_option maxRecDepth 100000 in
theorem outer_any {w : World} {av bv : Value} {N M : Nat} {xs us : List Value} (ha : Ro w 1 av N xs) (hb : Ro w 1 bv M us) (hab : ∀ b, av.ownBlock = some b → bv.ownBlock ≠ some b) (hN : N ≤ 100000) (hM : M ≤ 100000) :
    Calls Tryz.prog 14 #[av, bv] w fun e w' => e = .returned (.bool true) ∧ Fr (fun b => av.ownBlock = some b ∨ bv.ownBlock = some b) w w' := by
  have HO := hide (OS.first ha hb hab (-1) (-3) (-2) (-4))
  obtain ⟨aa, ac, ea, _, _⟩ := ha.shape
  obtain ⟨ba, bc, eb, _, _⟩ := hb.shape
  clear ha hb hab
  subst ea
  subst eb
  go_enter Tryz.func14, Tryz.ntmps14
  go_wp2
  go_loopg [5] N (fun gg s wr => ∃ (i : Nat) (ps : List Value), Hid (i + gg = N) ∧ s = .int .i64 (i : Int) ∧ Hid (OS w (.slice aa N ac) (.slice aa N ac) (.slice ba M bc) (.slice ba M bc) N i 0 M 0 0 (-1) (-3) (-2) (-4) ps [] us [] wr))
  case atStart => exact ⟨0, xs, by unfold Hid; omega, rfl, HO⟩
  case round =>
    obtain ⟨i, ps, hi, rfl, hO⟩ := hrel
    by_cases hlt : i < N
    · obtain ⟨g, off, cap, v, e, hc, hf, hg⟩ := (unhide hO).cell hlt
      have hst := (unhide hO).store hlt e
      rw [World.setCell_alloc_past _ _ _ _ hg] at hst
      have HS := hide hst
      clear hst
      cases e
      have i1 : (0 : Int) ≤ (i : Int) := by omega
      have i2 : (i : Int) < (N : Int) := by omega
      have hc2 : (wr.alloc (.cells #[.int .i64 (-1)] 3)).cell? ⟨g, off + i, none⟩ = some v := (World.cell?_of_block (Below.heap_alloc wr _ g hg)).trans hc
      have hf2 : (wr.alloc (.cells #[.int .i64 (-1)] 3)).frozen? ⟨g, off + i, none⟩ = false := (World.frozen?_of_block (Below.heap_alloc wr _ g hg)).trans hf
      go_wp2
      go_roundg (gk - 1)
      case measure => have := unhide hi; omega
      case rel => exact ⟨i + 1, _, by have := unhide hi; unfold Hid; omega, by go_num, HS⟩
    · obtain rfl : N = i := by have := unhide hi; omega
      have HO2 := hide (unhide hO).swap
      obtain ⟨qs, hqs⟩ : ∃ qs, Hid (qs = ps) := ⟨_, rfl⟩
      rw [← unhide hqs] at HO2
      clear hqs hO
      have i2 : ¬ ((N : Nat) : Int) < (N : Int) := by omega
      go_wp2
      go_loopg [6] M (fun gg s wr => ∃ (i : Nat) (ps : List Value), Hid (i + gg = M) ∧ s = .int .i64 (i : Int) ∧ Hid (OS w (.slice ba M bc) (.slice ba M bc) (.slice aa N ac) (.slice aa N ac) M i 0 N N 0 (-2) (-4) (-1) (-3) ps [] qs [] wr))
      case atStart => exact ⟨0, us, by unfold Hid; omega, rfl, HO2⟩
      case round =>
        obtain ⟨i, ps, hi, rfl, hO⟩ := hrel
        by_cases hlt : i < M
        · obtain ⟨g, off, cap, v, e, hc, hf, hg⟩ := (unhide hO).cell hlt
          have hst := (unhide hO).store hlt e
          rw [World.setCell_alloc_past _ _ _ _ hg] at hst
          have HS := hide hst
          clear hst
          cases e
          have i1 : (0 : Int) ≤ (i : Int) := by omega
          have i2 : (i : Int) < (M : Int) := by omega
          have hc2 : (wr.alloc (.cells #[.int .i64 (-2)] 3)).cell? ⟨g, off + i, none⟩ = some v := (World.cell?_of_block (Below.heap_alloc wr _ g hg)).trans hc
          have hf2 : (wr.alloc (.cells #[.int .i64 (-2)] 3)).frozen? ⟨g, off + i, none⟩ = false := (World.frozen?_of_block (Below.heap_alloc wr _ g hg)).trans hf
          go_wp2
          go_roundg (gk - 1)
          case measure => have := unhide hi; omega
          case rel => exact ⟨i + 1, _, by have := unhide hi; unfold Hid; omega, by go_num, HS⟩
        · obtain rfl : M = i := by have := unhide hi; omega
          have HO3 := hide (unhide hO).swap
          clear hO
          have i2 : ¬ ((M : Nat) : Int) < (M : Int) := by omega
          go_wp2
          obtain ⟨as1, has⟩ : ∃ as1, Hid (as1 = qs) := ⟨_, rfl⟩
          obtain ⟨bs, hbs⟩ : ∃ bs, Hid (bs = ps) := ⟨_, rfl⟩
          rw [← unhide has, ← unhide hbs] at HO3
          clear has hbs
          go_loopg [7, 8] 40 (fun gg s7 s8 wr => ∃ (i : Nat) (ks : List Value), Hid (i + gg = 40) ∧ i ≤ 40 ∧ s8 = .int .i64 (i : Int) ∧ Hid (OS w (.slice aa N ac) s7 (.slice ba M bc) (.slice ba M bc) N N i M M 0 (-1) (-3) (-2) (-4) as1 ks bs [] wr))
          case atStart => exact ⟨0, [], by unfold Hid; omega, by omega, rfl, HO3⟩
          case round =>
            obtain ⟨i, ks, hi, hi40, rfl, hO⟩ := hrel
            by_cases hlt : i < 40
            · have i2 : (i : Int) < 40 := by omega
              have HRo : Hid (Ro ((wr.alloc (.cells #[.int .i64 (-3)] 3)).alloc (.cells #[.slice (some ⟨wr.heap.size, 0, none⟩) 1 1] 27)) 1 u7 (N + i) (as1 ++ ks)) := (unhide hO).A.rg.fr (S := fun _ => False) (((Fr.refl _ wr).alloc _).alloc _) (fun _ _ q => q)
              have HNC : Hid (∀ t u', [Value.slice (some ⟨wr.heap.size, 0, none⟩) 1 1][t]? = some u' → ((wr.alloc (.cells #[.int .i64 (-3)] 3)).alloc (.cells #[.slice (some ⟨wr.heap.size, 0, none⟩) 1 1] 27)).cell? ((⟨wr.heap.size + 1, 0, none⟩ : Addr).add t) = some u') := by
                have := new_cells (wr.alloc (.cells #[.int .i64 (-3)] 3)) #[.slice (some ⟨wr.heap.size, 0, none⟩) 1 1] 27
                unfold Hid
                simpa using this
              go_wp2_with (first | (at_builtin; refine wpList_appLK rfl _ _ rfl u7 (N + i) (as1 ++ ks) rfl (unhide HRo) ⟨wr.heap.size + 1, 0, none⟩ 1 (.slice (some ⟨wr.heap.size, 0, none⟩) 1 1) rfl rfl (unhide HNC) (by omega) ?_))
              intro v' w2 hown' hgrow hat hRd
              have HN := hide ((unhide hO).push (o := _) (by rw [List.append_assoc]; exact hown') hgrow (by simpa using hat) hRd)
              clear hown' hgrow hat hRd
              go_wp2
              go_roundg (gk - 1)
              case measure => have := unhide hi; omega
              case rel => exact ⟨i + 1, _, by have := unhide hi; unfold Hid; omega, by omega, by go_num, HN⟩
            · obtain rfl : i = 40 := by omega
              have i2 : ¬ ((40 : Nat) : Int) < 40 := by omega
              have HO4 := hide (unhide hO).swap
              obtain ⟨gk1, hgk1⟩ : ∃ q, Hid (q = ks) := ⟨_, rfl⟩
              rw [← unhide hgk1] at HO4
              clear hgk1 hO
              go_wp2
              obtain ⟨gvv, hgvv⟩ : ∃ gvv, Hid (gvv = u7) := ⟨_, rfl⟩
              go_loopg [9, 10] 40 (fun gg s9 s10 wr => ∃ (i : Nat) (ks : List Value), Hid (i + gg = 40) ∧ i ≤ 40 ∧ s10 = .int .i64 (i : Int) ∧ Hid (OS w (.slice ba M bc) s9 (.slice aa N ac) gvv M M i N N 40 (-2) (-4) (-1) (-3) bs ks as1 gk1 wr))
              case atStart => exact ⟨0, [], by unfold Hid; omega, by omega, rfl, by rw [← unhide hgvv] at HO4; exact HO4⟩
              case round =>
                obtain ⟨i, ks, hi, hi40, rfl, hO⟩ := hrel
                by_cases hlt : i < 40
                · have i2 : (i : Int) < 40 := by omega
                  have HRo : Hid (Ro ((wr.alloc (.cells #[.int .i64 (-4)] 3)).alloc (.cells #[.slice (some ⟨wr.heap.size, 0, none⟩) 1 1] 27)) 1 u9 (M + i) (bs ++ ks)) := (unhide hO).A.rg.fr (S := fun _ => False) (((Fr.refl _ wr).alloc _).alloc _) (fun _ _ q => q)
                  have HNC : Hid (∀ t u', [Value.slice (some ⟨wr.heap.size, 0, none⟩) 1 1][t]? = some u' → ((wr.alloc (.cells #[.int .i64 (-4)] 3)).alloc (.cells #[.slice (some ⟨wr.heap.size, 0, none⟩) 1 1] 27)).cell? ((⟨wr.heap.size + 1, 0, none⟩ : Addr).add t) = some u') := by
                    have := new_cells (wr.alloc (.cells #[.int .i64 (-4)] 3)) #[.slice (some ⟨wr.heap.size, 0, none⟩) 1 1] 27
                    unfold Hid
                    simpa using this
                  go_wp2_with (first | (at_builtin; refine wpList_appLK rfl _ _ rfl u9 (M + i) (bs ++ ks) rfl (unhide HRo) ⟨wr.heap.size + 1, 0, none⟩ 1 (.slice (some ⟨wr.heap.size, 0, none⟩) 1 1) rfl rfl (unhide HNC) (by omega) ?_))
                  intro v' w2 hown' hgrow hat hRd
                  have HN := hide ((unhide hO).push (o := _) (by rw [List.append_assoc]; exact hown') hgrow (by simpa using hat) hRd)
                  clear hown' hgrow hat hRd
                  go_wp2
                  go_roundg (gk - 1)
                  case measure => have := unhide hi; omega
                  case rel => exact ⟨i + 1, _, by have := unhide hi; unfold Hid; omega, by omega, by go_num, HN⟩
                · obtain rfl : i = 40 := by omega
                  have i2 : ¬ ((40 : Nat) : Int) < 40 := by omega
                  have HB := hide (unhide hO).A
                  have HA := hide (unhide hO).B
                  have HF := hide ((unhide hO).fr.mono (fun _ _ q => q.symm))
                  rw [unhide hgvv] at HA
                  clear hO
                  go_wp2
                  obtain ⟨g1, o1, c1, k0, e7, _, _⟩ := (unhide HA).now (t := 0) (by omega)
                  subst e7
                  obtain ⟨g2, o2, c2, k2, e9, _, _⟩ := (unhide HB).now (t := 0) (by omega)
                  subst e9
                  go_loopg [11] (N + 40) (fun gg s wq => ∃ (i : Nat), Hid (i + gg = N + 40) ∧ s = .int .i64 (i : Int) ∧ wq = wr)
                  case atStart => exact ⟨0, by unfold Hid; omega, rfl, rfl⟩
                  case round =>
                    obtain ⟨i, hi, rfl, rfl⟩ := hrel
                    by_cases hlt : i < N + 40
                    · obtain ⟨_, _, _, b, e, hc, hx⟩ := (unhide HA).now hlt
                      cases e
                      have i1 : (0 : Int) ≤ (i : Int) := by omega
                      have i2 : (i : Int) < (N : Int) + 40 := by omega
                      by_cases hin : i < N
                      · rw [if_pos hin] at hx
                        obtain ⟨_, _, _, b2, e, hc2, hx2⟩ := (unhide HA).old hin
                        cases e
                        have i3 : (i : Int) < (N : Int) := by omega
                        have i4 : ¬ (i : Int) ≥ (N : Int) := by omega
                        go_wp2
                        go_roundg (gk - 1)
                        case measure => have := unhide hi; omega
                        case rel => exact ⟨i + 1, by have := unhide hi; unfold Hid; omega, by go_num, rfl⟩
                      · rw [if_neg hin] at hx
                        have i3 : ¬ (i : Int) < (N : Int) := by omega
                        have i4 : (i : Int) ≥ (N : Int) := by omega
                        go_wp2
                        go_roundg (gk - 1)
                        case measure => have := unhide hi; omega
                        case rel => exact ⟨i + 1, by have := unhide hi; unfold Hid; omega, by go_num, rfl⟩
                    · have i2 : ¬ (i : Int) < (N : Int) + 40 := by omega
                      go_wp2
                      go_loopg [12] (M + 40) (fun gg s wq => ∃ (i : Nat), Hid (i + gg = M + 40) ∧ s = .int .i64 (i : Int) ∧ wq = wr)
                      case atStart => exact ⟨0, by unfold Hid; omega, rfl, rfl⟩
                      case round =>
                        obtain ⟨i, hi, rfl, rfl⟩ := hrel
                        by_cases hlt : i < M + 40
                        · obtain ⟨_, _, _, b, e, hc, hx⟩ := (unhide HB).now hlt
                          cases e
                          have i1 : (0 : Int) ≤ (i : Int) := by omega
                          have i2 : (i : Int) < (M : Int) + 40 := by omega
                          by_cases hin : i < M
                          · rw [if_pos hin] at hx
                            obtain ⟨_, _, _, b2, e, hc2, hx2⟩ := (unhide HB).old hin
                            cases e
                            have i3 : (i : Int) < (M : Int) := by omega
                            have i4 : ¬ (i : Int) ≥ (M : Int) := by omega
                            go_wp2
                            go_roundg (gk - 1)
                            case measure => have := unhide hi; omega
                            case rel => exact ⟨i + 1, by have := unhide hi; unfold Hid; omega, by go_num, rfl⟩
                          · rw [if_neg hin] at hx
                            have i3 : ¬ (i : Int) < (M : Int) := by omega
                            have i4 : (i : Int) ≥ (M : Int) := by omega
                            go_wp2
                            go_roundg (gk - 1)
                            case measure => have := unhide hi; omega
                            case rel => exact ⟨i + 1, by have := unhide hi; unfold Hid; omega, by go_num, rfl⟩
                        · have i2 : ¬ (i : Int) < (M : Int) + 40 := by omega
                          go_wp2
                          go_ret
                          exact ⟨rfl, unhide HF⟩
end Go.Proofs.YtbkfnmkfbdoadaaGreatDoor
