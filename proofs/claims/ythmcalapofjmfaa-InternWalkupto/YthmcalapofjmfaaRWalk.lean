/-
  Walk, as the document has it.
-/
import Derived.Test.YthmcalapofjmfaaActs
import Derived.Test.YthmcalapofjmfaaHands
namespace Go.Proofs.Ythmcalapofjmfaa
open Go.RowKit Go.Maps
set_option linter.unusedVariables false

theorem Try.info60 : (Try.prog.info? 60).map (fun i => (i.zero, i.size, i.bytes)) = some (some (.agg #[.int .i64 0, .string ⟨#[]⟩]), 2, 24) := by kernel_rfl

def ax (l : List AcD) (i : Nat) : AcD := l.getD i ⟨false, 0, ByteArray.empty⟩
/-- A list of acts as it came in. -/
def Ra (w : World) (v : Value) (ac : List AcD) : Prop :=
  ∃ a cap, v = .slice a ac.length cap ∧ ac.length ≤ maxLen ∧ ∀ i, i < ac.length → ∃ b off, a = some ⟨b, off, none⟩ ∧ b < w.heap.size ∧ w.cell? ⟨b, off + i * 3, none⟩ = some (.bool (ax ac i).c) ∧ w.cell? ⟨b, off + i * 3 + 1, none⟩ = some (.int .i64 (ax ac i).n) ∧ w.cell? ⟨b, off + i * 3 + 2, none⟩ = some (.string (ax ac i).s) ∧ (ax ac i).s.size ≤ maxLen
/-- The row behind k rounds. -/
def rwk (l : List ByteArray) (ac : List AcD) : Nat → List ByteArray
  | 0 => l
  | k + 1 => if k < ac.length then acts (rwk l ac k) (ax ac k) else rwk l ac k
theorem rwk_length (l : List ByteArray) (ac : List AcD) : ∀ k, (rwk l ac k).length ≤ l.length + k ∧ (rwk l ac k).length ≤ l.length + ac.length
  | 0 => ⟨by simp [rwk], by simp [rwk]⟩
  | k + 1 => by
    have ⟨h1, h2⟩ := rwk_length l ac k
    unfold rwk
    split
    · have := acts_length (rwk l ac k) (ax ac k)
      omega
    · omega
/-- What k rounds have given. -/
def pcs (rw : Nat → List ByteArray) : Nat → List Value
  | 0 => []
  | k + 1 => pcs rw k ++ [.int .i64 (k : Int), .string (tx (rw k) k)]
/-- The walk is over at m. -/
def Over (rw : Nat → List ByteArray) (stop : Int) (m : Nat) : Prop := (∀ i, i < m → Ac rw i) ∧ (∀ i, 0 < i → i < m → (i : Int) ≠ stop) ∧ ((0 < m ∧ (m : Int) = stop) ∨ ¬ Ac rw m)

theorem two_new (w : World) (u v : Value) (e : TypeId) : ∀ j z, [u, v][j]? = some z → (w.alloc (.cells #[u, v] e)).cell? ((⟨w.heap.size, 0, none⟩ : Addr).add j) = some z := fun j z hz => by
  have hg := heap_alloc_new w (.cells #[u, v] e)
  rw [Go.WideShapes.add_plain]
  have hj : j < 2 := (List.getElem?_eq_some_iff.1 hz).1
  match j, hj with
  | 0, _ => simp only [World.cell?, hg]; simpa using hz
  | 1, _ => simp only [World.cell?, hg]; simpa using hz
theorem wpList_pair {w : World} {ops : Array Oper} {rest : List Oper} {o : Oper} {a : Act} {Q : Exit → Act → World → Prop} (hgd : o.guard = none) (s x : Operand)
    (ho : o.op = .call { callee := .builtin .append, args := #[s, x], argTypes := #[56, 56] }) (base : Nat) (v : Value) (n : Nat) (xs : List Value) (hs : a.eval s = v) (hown : w.ownsRow base 60 2 v n xs)
    (ad : Addr) (c : Nat) (i : Int) (b : ByteArray) (hx : a.eval x = .slice (some ad) 1 c) (hnews : ∀ j u, [Value.int .i64 i, Value.string b][j]? = some u → w.cell? (ad.add j) = some u) (hN : n ≤ 4194304) (hbase : base ≤ w.heap.size)
    (h : ∀ v' w', w'.ownsRow base 60 2 v' (n + 1) (xs ++ [Value.int .i64 i, Value.string b]) → w.grownBy w' v.ownBlock → (v'.ownBlock = v.ownBlock ∨ v'.ownBlock = some w.heap.size) → wpList Try.prog ops Q rest (a.put o.dst v') w') :
    wpList Try.prog ops Q (o :: rest) a w := by
  refine wpList_plain hgd fun K hK => ?_
  obtain ⟨i0, hi0, hz0, hz1, hz2⟩ := info_parts Try.info60
  obtain ⟨v', w', hr, k2, k3, _, k5⟩ := run_append_own_at (P := Try.prog) w base 56 o.type 60 i0 _ 2 24 Try.underlying56 hi0 hz0 hz1 hz2 rfl (by decide) v n xs hown ad 1 c [Value.int .i64 i, Value.string b] rfl hnews (by simp [Value.oneCell']) (by unfold maxLen; omega) (by omega) hbase
  unfold Oper.wp execOp
  simp only [ho, resolve, invoke, builtin, Sem.run_bind, Sem.run_pure, Result.andThen_ok, List.map_toArray, List.map_cons, List.map_nil, hs, hx, hr]
  exact hK _ _ (h v' w' k2 k3 k5)

theorem own_slice2 {w : World} {base sz : Nat} {e : TypeId} {v : Value} {n : Nat} {xs : List Value} (h : w.ownsRow base e sz v (n + 1) xs) : ∃ g cap, v = .slice (some ⟨g, 0, none⟩) (n + 1) cap := by
  rcases h.2 with ⟨_, h2⟩ | ⟨g, cap, cur, hv, _⟩
  · omega
  · exact ⟨g, cap, hv⟩
theorem own_keep2 {w w' : World} {base sz : Nat} {e : TypeId} {v : Value} {n : Nat} {xs : List Value} (h : w.ownsRow base e sz v n xs) (hb : ∀ g, v.ownBlock = some g → w'.heap[g]? = w.heap[g]?) : w'.ownsRow base e sz v n xs := by
  obtain ⟨h1, h2⟩ := h
  refine ⟨h1, ?_⟩
  rcases h2 with h2 | ⟨g, cap, cur, hv, hg, hh, r⟩
  · exact Or.inl h2
  · exact Or.inr ⟨g, cap, cur, hv, hg, by rw [hb g (by rw [hv]; rfl)]; exact hh, r⟩
theorem all_succ {P : Nat → Prop} {j : Nat} (h : ∀ i, i < j → P i) (hj : P j) : ∀ i, i < j + 1 → P i := fun i q => by
  rcases Nat.lt_succ_iff_lt_or_eq.1 q with r | r
  · exact h i r
  · rw [r]; exact hj
theorem no_succ {stop : Int} {j : Nat} (h : ∀ i : Nat, 0 < i → i ≤ j → (i : Int) ≠ stop) (hne : ¬ stop = (j : Int) + 1) : ∀ i : Nat, 0 < i → i ≤ j + 1 → (i : Int) ≠ stop := fun i q1 q2 => by
  by_cases r : i ≤ j
  · exact h i q1 r
  · have : i = j + 1 := by omega
    rw [this]; omega
/-- Walk's state behind j rounds. -/
structure WkI (w : World) (v : Value) (l : List ByteArray) (ac : List AcD) (stop : Int) (j : Nat) (t0 t8 : Value) (X : World) : Prop where
  row : Rt X t0 (rwk l ac j)
  bel : Below w.heap.size w X
  ob : t0.ownBlock = v.ownBlock ∨ ∀ k, t0.ownBlock = some k → w.heap.size ≤ k
  lt : ∀ k, t0.ownBlock = some k → k < X.heap.size
  got : X.ownsRow w.heap.size 60 2 t8 j (pcs (rwk l ac) j)
  ap : ∀ k, t8.ownBlock = some k → t0.ownBlock ≠ some k
  all : ∀ i, i < j → Ac (rwk l ac) i
  no : ∀ i, 0 < i → i ≤ j → (i : Int) ≠ stop
/-- What Walk gives. -/
structure WkR (w : World) (v : Value) (l : List ByteArray) (ac : List AcD) (stop : Int) (m : Nat) (u g : Value) (X : World) : Prop where
  row : Rt X u (rwk l ac m)
  bel : Below w.heap.size w X
  ob : u.ownBlock = v.ownBlock ∨ ∀ k, u.ownBlock = some k → w.heap.size ≤ k
  lt : ∀ k, u.ownBlock = some k → k < X.heap.size
  got : X.ownsRow w.heap.size 60 2 g m (pcs (rwk l ac) m)
  over : Over (rwk l ac) stop m
theorem rt_lt {w : World} {v : Value} {l : List ByteArray} (h : Rt w v l) (hl : 0 < l.length) : ∀ k, v.ownBlock = some k → k < w.heap.size := by
  obtain ⟨a, cap, rfl, _, _, h3⟩ := h
  obtain ⟨b, off, rfl, h4, _⟩ := h3 0 hl
  intro k hk
  simp [Value.ownBlock] at hk
  omega
/-- A pair more. -/
theorem WkI.more {w X Y : World} {v t0 t8 t8' : Value} {l : List ByteArray} {ac : List AcD} {stop : Int} {j : Nat} {o : Obj} (h : WkI w v l ac stop j t0 t8 X) (hj : 0 < (rwk l ac j).length)
    (hown : Y.ownsRow w.heap.size 60 2 t8' (j + 1) (pcs (rwk l ac) j ++ [.int .i64 (j : Int), .string (tx (rwk l ac j) j)])) (hg : (X.alloc o).grownBy Y t8.ownBlock) (hl : t8'.ownBlock = t8.ownBlock ∨ t8'.ownBlock = some (X.alloc o).heap.size) :
    Rt Y t0 (rwk l ac j) ∧ Below w.heap.size w Y ∧ Y.ownsRow w.heap.size 60 2 t8' (j + 1) (pcs (rwk l ac) (j + 1)) ∧ (∀ k, t8'.ownBlock = some k → t0.ownBlock ≠ some k) ∧ (∀ k, t8'.ownBlock = some k → k < Y.heap.size) ∧ (∀ k, t0.ownBlock = some k → k < Y.heap.size) := by
  have lt := h.lt
  have hs : (X.alloc o).heap.size = X.heap.size + 1 := by simp
  refine ⟨h.row.keep (Nat.le_trans (by rw [hs]; omega) hg.size) (fun g hg0 => ?_), (h.bel.alloc h.bel.size o).grown hg (Nat.le_trans h.bel.size (by rw [hs]; omega)) (fun k hk => (h.got.lt k hk).1), hown, fun k hk e => ?_, fun k hk => (hown.lt k hk).2, fun k hk => Nat.lt_of_lt_of_le (h.lt k hk) (Nat.le_trans (by rw [hs]; omega) hg.size)⟩
  · have := lt g hg0
    rw [hg.block g (by rw [hs]; omega) (fun e => h.ap g e.symm hg0)]
    exact Below.heap_alloc _ _ _ this
  · rcases hl with q | q
    · exact h.ap k (q ▸ hk) e
    · have := lt k e
      rw [q] at hk
      cases hk
      omega

set_option maxRecDepth 100000 in
set_option maxHeartbeats 3200000 in
theorem rwalk_any {w : World} {v va : Value} {l : List ByteArray} {ac : List AcD} (h : Rt w v l) (hv : ∀ k, v.ownBlock = some k → k < w.heap.size) (ha : Ra w va ac) (stop : Int) (hl : l.length ≤ 3145728) (hal : ac.length ≤ 1048576) : Calls Try.prog 26 #[v, va, .int .i64 stop] w fun e w' => ∃ m u g, e = .returned (.tuple #[g, u]) ∧ WkR w v l ac stop m u g w' := by
  obtain ⟨aa, ca, rfl, a2, a3⟩ := ha
  have HA := hide a3
  have H0 : Hid (WkI w v l ac stop 0 v (.slice none 0 0) w) := ⟨h, Below.refl _ _, .inl rfl, hv, World.ownsRow_nil _ _ _ _, (by intro k hk; simp [Value.ownBlock] at hk), (by intro i hi; omega), (by intro i h1 h2; omega)⟩
  obtain ⟨a, cap, ev, h1, h2, h3⟩ := h
  obtain ⟨N, hN⟩ : ∃ N, Hid (l.length = N) := ⟨_, rfl⟩
  obtain ⟨M, hM⟩ : ∃ M, Hid (ac.length = M) := ⟨_, rfl⟩
  have hRL := hide (fun k => rwk_length l ac k)
  rw [ev] at H0 ⊢
  rw [unhide hN] at ev hl H0 ⊢
  rw [unhide hM] at hal ⊢
  unfold maxLen at a2 h2
  clear a3 ev h1 h2 h3 a2
  go_enter Try.func26, Try.ntmps26
  go_wp2_with fail
  go_loopg [0, 8, 10] N (fun g t0 t8 t10 wr => ∃ j : Nat, Hid (j + g = N) ∧ t10 = .int .i64 (j : Int) ∧ Hid (WkI w (.slice a N cap) l ac stop j t0 t8 wr))
  case atStart => exact ⟨0, by unfold Hid; omega, rfl, H0⟩
  case round =>
    obtain ⟨j, hj, rfl, HW⟩ := hrel
    clear H0
    obtain ⟨L, hL⟩ : ∃ L, Hid ((rwk l ac j).length = L) := ⟨_, rfl⟩
    obtain ⟨ra, rc, e0, r1, r2, r3⟩ := (unhide HW).row
    rw [unhide hL] at e0 r1
    subst e0
    have HR := hide r3
    have hLb : L ≤ 4194304 := by have := (unhide hRL j).2; rw [unhide hL, unhide hN, unhide hM] at this; omega
    have hjN : j ≤ N := by have := unhide hj; omega
    unfold maxLen at r2
    clear r3
    by_cases hlt : j < N
    · by_cases hlL : j < L
      · have hac : Hid (Ac (rwk l ac) j) := ⟨by rw [show rwk l ac 0 = l from rfl, unhide hN]; exact hlt, by rw [unhide hL]; exact hlL⟩
        obtain ⟨b, off, rfl, hb, c1⟩ := unhide HR j (by rw [unhide hL]; exact hlL)
        have hown := hide (unhide HW).got
        have hbs : Hid (w.heap.size ≤ wr.heap.size) := (unhide HW).bel.size
        have HMO := hide (fun (Y : World) (t8' : Value) (o : Obj) p1 p2 p3 => (unhide HW).more (Y := Y) (t8' := t8') (o := o) (by rw [unhide hL]; omega) p1 p2 p3)
        obtain ⟨t, et⟩ : ∃ t, Hid (tx (rwk l ac j) j = t) := ⟨_, rfl⟩
        rw [unhide et] at c1 HMO
        have i0 : (0 : Int) ≤ (j : Int) := by omega
        have i1 : (j : Int) < (N : Int) := by omega
        have i2 : (j : Int) < (L : Int) := by omega
        by_cases hst : stop = (j : Int) + 1
        · subst hst
          by_cases hjM : j < M
          · obtain ⟨b2, off2, rfl, hb2, k1, k2, k3, _⟩ := unhide HA j (by rw [unhide hM]; exact hjM)
            have HK := hide (And.intro k1 (And.intro k2 k3))
            have i3 : (j : Int) < (M : Int) := by omega
            have hstep : Hid (rwk l ac (j + 1) = acts (rwk l ac j) (ax ac j)) := by unfold Hid; show (if j < ac.length then _ else _) = _; rw [if_pos (by rw [unhide hM]; exact hjM)]
            obtain ⟨ad, ead⟩ : ∃ ad, Hid (ax ac j = ad) := ⟨_, rfl⟩
            rw [unhide ead] at HK hstep
            obtain ⟨dc, dn, ds⟩ := ad
            clear k1 k2 k3
            go_wp2_with (first | (at_builtin; refine wpList_pair rfl _ _ rfl w.heap.size _ j _ rfl ((unhide hown).alloc _) ⟨wr.heap.size, 0, none⟩ 1 (j : Int) t rfl (two_new _ _ _ _) (by omega) (by have := unhide hbs; simp; omega) ?_; intro v' w1 hown' hgrow hloc; obtain ⟨gg, gc, rfl⟩ := own_slice2 hown'; have HY := hide (unhide HMO w1 _ _ hown' hgrow hloc); clear hown' hgrow hloc; have k1 : w1.cell? ⟨b2, off2 + j * 3, none⟩ = some (.bool dc) := ((unhide HY).2.1.cell (p := ⟨b2, off2 + j * 3, none⟩) hb2).trans (unhide HK).1; have k2 : w1.cell? ⟨b2, off2 + j * 3 + 1, none⟩ = some (.int .i64 dn) := ((unhide HY).2.1.cell (p := ⟨b2, off2 + j * 3 + 1, none⟩) hb2).trans (unhide HK).2.1; have k3 : w1.cell? ⟨b2, off2 + j * 3 + 2, none⟩ = some (.string ds) := ((unhide HY).2.1.cell (p := ⟨b2, off2 + j * 3 + 2, none⟩) hb2).trans (unhide HK).2.2) | fail)
            have HD := hide (rdone_any (unhide HY).1 ⟨dc, dn, ds⟩ (by rw [unhide hL]; omega))
            refine (unhide HD).mono ?_
            rintro e w2 ⟨u, rfl, hN2⟩
            have HN2 := hide hN2
            have hz : Hid (w.heap.size ≤ w1.heap.size) := (unhide HY).2.1.size
            have HLT := hide (unhide HY).2.2.2.2.2
            clear hN2 HD k1 k2 k3
            have WR : Hid (WkR w (.slice a N cap) l ac ((j : Int) + 1) (j + 1) u (.slice (some ⟨gg, 0, none⟩) (j + 1) gc) w2) := ⟨by rw [unhide hstep]; exact (unhide HN2).1, (unhide HY).2.1.trans ((unhide HN2).2.1.mono (unhide hz)), (unhide HN2).2.2.elim (fun q => by rw [q]; exact (unhide HW).ob) (fun q => .inr (fun k hk => Nat.le_trans (unhide hz) (q k hk).1)), (fun k hk => (unhide HN2).2.2.elim (fun q => Nat.lt_of_lt_of_le (unhide HLT k (q ▸ hk)) (unhide HN2).2.1.size) (fun q => (q k hk).2)), own_keep2 (unhide HY).2.2.1 (fun g hg => (Fr.of_below (S := fun _ => False) (unhide HN2).2.1).block g ((unhide HY).2.2.2.2.1 g hg) (fun e => e)), all_succ (unhide HW).all (unhide hac), (fun i q1 q2 => (unhide HW).no i q1 (by omega)), .inl ⟨by omega, by omega⟩⟩
            clear HW
            go_wp2_with fail
            go_ret2
            exact ⟨j + 1, _, _, rfl, unhide WR⟩
          · have i3 : ¬ (j : Int) < (M : Int) := by omega
            have hstep : Hid (rwk l ac (j + 1) = rwk l ac j) := by unfold Hid; show (if j < ac.length then _ else _) = _; rw [if_neg (by rw [unhide hM]; exact hjM)]
            go_wp2_with (first | (at_builtin; refine wpList_pair rfl _ _ rfl w.heap.size _ j _ rfl ((unhide hown).alloc _) ⟨wr.heap.size, 0, none⟩ 1 (j : Int) t rfl (two_new _ _ _ _) (by omega) (by have := unhide hbs; simp; omega) ?_; intro v' w1 hown' hgrow hloc; obtain ⟨gg, gc, rfl⟩ := own_slice2 hown'; have HY := hide (unhide HMO w1 _ _ hown' hgrow hloc); clear hown' hgrow hloc) | fail)
            have WR : Hid (WkR w (.slice a N cap) l ac ((j : Int) + 1) (j + 1) (.slice (some ⟨b, off, none⟩) L rc) (.slice (some ⟨gg, 0, none⟩) (j + 1) gc) w1) := ⟨by rw [unhide hstep]; exact (unhide HY).1, (unhide HY).2.1, (unhide HW).ob, (unhide HY).2.2.2.2.2, (unhide HY).2.2.1, all_succ (unhide HW).all (unhide hac), (fun i q1 q2 => (unhide HW).no i q1 (by omega)), .inl ⟨by omega, by omega⟩⟩
            clear HW
            go_ret2
            exact ⟨j + 1, _, _, rfl, unhide WR⟩
        · by_cases hjM : j < M
          · obtain ⟨b2, off2, rfl, hb2, k1, k2, k3, _⟩ := unhide HA j (by rw [unhide hM]; exact hjM)
            have HK := hide (And.intro k1 (And.intro k2 k3))
            have i3 : (j : Int) < (M : Int) := by omega
            have hstep : Hid (rwk l ac (j + 1) = acts (rwk l ac j) (ax ac j)) := by unfold Hid; show (if j < ac.length then _ else _) = _; rw [if_pos (by rw [unhide hM]; exact hjM)]
            obtain ⟨ad, ead⟩ : ∃ ad, Hid (ax ac j = ad) := ⟨_, rfl⟩
            rw [unhide ead] at HK hstep
            obtain ⟨dc, dn, ds⟩ := ad
            clear k1 k2 k3
            go_wp2_with (first | (at_builtin; refine wpList_pair rfl _ _ rfl w.heap.size _ j _ rfl ((unhide hown).alloc _) ⟨wr.heap.size, 0, none⟩ 1 (j : Int) t rfl (two_new _ _ _ _) (by omega) (by have := unhide hbs; simp; omega) ?_; intro v' w1 hown' hgrow hloc; obtain ⟨gg, gc, rfl⟩ := own_slice2 hown'; have HY := hide (unhide HMO w1 _ _ hown' hgrow hloc); clear hown' hgrow hloc; have k1 : w1.cell? ⟨b2, off2 + j * 3, none⟩ = some (.bool dc) := ((unhide HY).2.1.cell (p := ⟨b2, off2 + j * 3, none⟩) hb2).trans (unhide HK).1; have k2 : w1.cell? ⟨b2, off2 + j * 3 + 1, none⟩ = some (.int .i64 dn) := ((unhide HY).2.1.cell (p := ⟨b2, off2 + j * 3 + 1, none⟩) hb2).trans (unhide HK).2.1; have k3 : w1.cell? ⟨b2, off2 + j * 3 + 2, none⟩ = some (.string ds) := ((unhide HY).2.1.cell (p := ⟨b2, off2 + j * 3 + 2, none⟩) hb2).trans (unhide HK).2.2) | fail)
            have HD := hide (rdone_any (unhide HY).1 ⟨dc, dn, ds⟩ (by rw [unhide hL]; omega))
            refine (unhide HD).mono ?_
            rintro e w2 ⟨u, rfl, hN2⟩
            have HN2 := hide hN2
            have hz : Hid (w.heap.size ≤ w1.heap.size) := (unhide HY).2.1.size
            have HLT := hide (unhide HY).2.2.2.2.2
            clear hN2 HD k1 k2 k3
            have WI : Hid (WkI w (.slice a N cap) l ac stop (j + 1) u (.slice (some ⟨gg, 0, none⟩) (j + 1) gc) w2) := ⟨by rw [unhide hstep]; exact (unhide HN2).1, (unhide HY).2.1.trans ((unhide HN2).2.1.mono (unhide hz)), (unhide HN2).2.2.elim (fun q => by rw [q]; exact (unhide HW).ob) (fun q => .inr (fun k hk => Nat.le_trans (unhide hz) (q k hk).1)), (fun k hk => (unhide HN2).2.2.elim (fun q => Nat.lt_of_lt_of_le (unhide HLT k (q ▸ hk)) (unhide HN2).2.1.size) (fun q => (q k hk).2)), own_keep2 (unhide HY).2.2.1 (fun g hg => (Fr.of_below (S := fun _ => False) (unhide HN2).2.1).block g ((unhide HY).2.2.2.2.1 g hg) (fun e => e)), (fun k hk e => (unhide HN2).2.2.elim (fun q => (unhide HY).2.2.2.1 k hk (q ▸ e)) (fun q => by have := (q k e).1; have := (unhide HY).2.2.2.2.1 k hk; omega)), all_succ (unhide HW).all (unhide hac), no_succ (unhide HW).no hst⟩
            clear HW
            go_wp2_with fail
            go_roundg (gk - 1)
            case measure => have := unhide hj; omega
            case rel => exact ⟨j + 1, by have := unhide hj; unfold Hid; omega, by go_num, WI⟩
          · have i3 : ¬ (j : Int) < (M : Int) := by omega
            have hstep : Hid (rwk l ac (j + 1) = rwk l ac j) := by unfold Hid; show (if j < ac.length then _ else _) = _; rw [if_neg (by rw [unhide hM]; exact hjM)]
            go_wp2_with (first | (at_builtin; refine wpList_pair rfl _ _ rfl w.heap.size _ j _ rfl ((unhide hown).alloc _) ⟨wr.heap.size, 0, none⟩ 1 (j : Int) t rfl (two_new _ _ _ _) (by omega) (by have := unhide hbs; simp; omega) ?_; intro v' w1 hown' hgrow hloc; obtain ⟨gg, gc, rfl⟩ := own_slice2 hown'; have HY := hide (unhide HMO w1 _ _ hown' hgrow hloc); clear hown' hgrow hloc) | fail)
            have WI : Hid (WkI w (.slice a N cap) l ac stop (j + 1) (.slice (some ⟨b, off, none⟩) L rc) (.slice (some ⟨gg, 0, none⟩) (j + 1) gc) w1) := ⟨by rw [unhide hstep]; exact (unhide HY).1, (unhide HY).2.1, (unhide HW).ob, (unhide HY).2.2.2.2.2, (unhide HY).2.2.1, (unhide HY).2.2.2.1, all_succ (unhide HW).all (unhide hac), no_succ (unhide HW).no hst⟩
            clear HW
            go_roundg (gk - 1)
            case measure => have := unhide hj; omega
            case rel => exact ⟨j + 1, by have := unhide hj; unfold Hid; omega, by go_num, WI⟩
      · have i1 : (j : Int) < (N : Int) := by omega
        have i2 : ¬ (j : Int) < (L : Int) := by omega
        have WR : Hid (WkR w (.slice a N cap) l ac stop j (.slice ra L rc) u8 wr) := ⟨(unhide HW).row, (unhide HW).bel, (unhide HW).ob, (unhide HW).lt, (unhide HW).got, (unhide HW).all, (fun i q1 q2 => (unhide HW).no i q1 (by omega)), .inr (fun q => by have q1 := q.1; have q2 := q.2; rw [show rwk l ac 0 = l from rfl, unhide hN] at q1; rw [unhide hL] at q2; omega)⟩
        clear HW
        go_wp2_with fail
        go_ret2
        exact ⟨j, _, _, rfl, unhide WR⟩
    · have i1 : ¬ (j : Int) < (N : Int) := by omega
      have WR : Hid (WkR w (.slice a N cap) l ac stop j (.slice ra L rc) u8 wr) := ⟨(unhide HW).row, (unhide HW).bel, (unhide HW).ob, (unhide HW).lt, (unhide HW).got, (unhide HW).all, (fun i q1 q2 => (unhide HW).no i q1 (by omega)), .inr (fun q => by have q1 := q.1; have q2 := q.2; rw [show rwk l ac 0 = l from rfl, unhide hN] at q1; rw [unhide hL] at q2; omega)⟩
      clear HW
      go_wp2_with fail
      go_ret2
      exact ⟨j, _, _, rfl, unhide WR⟩
end Go.Proofs.Ythmcalapofjmfaa
