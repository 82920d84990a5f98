/-
  Apart, of rows that are one's own.
-/
import Derived.Test.YtnfinplkeefdgaaKeep
namespace Go.Proofs.Ytnfinplkeefdgaa
open Go.RowKit

def updV (f : Nat → Value) (k : Nat) (x : Value) : Nat → Value := fun j => if j = k then x else f j
theorem updV_at (f : Nat → Value) (k : Nat) (x : Value) : updV f k x k = x := if_pos rfl
theorem updV_ne (f : Nat → Value) {k j : Nat} (x : Value) (h : j ≠ k) : updV f k x j = f j := if_neg h
theorem updV_range (f : Nat → Value) (k : Nat) (x : Value) : (List.range k).map (updV f k x) = (List.range k).map f := by
  apply List.map_congr_left
  intro j hj
  rw [List.mem_range] at hj
  exact updV_ne f x (by omega)

/-- How long row j is. -/
def gln (ns : Nat → Nat) (k i j : Nat) : Nat := if j < k then ns j + 64 else if j = k then ns j + i else ns j
theorem gln_at (ns : Nat → Nat) (k i : Nat) : gln ns k i k = ns k + i := by unfold gln; rw [if_neg (by omega), if_pos rfl]
theorem gln_next (ns : Nat → Nat) (k j : Nat) : gln ns k 64 j = gln ns (k + 1) 0 j := by
  unfold gln
  by_cases h : j < k
  · rw [if_pos h, if_pos (by omega)]
  · by_cases e : j = k
    · rw [if_neg h, if_pos e, if_pos (by omega)]
    · rw [if_neg h, if_neg e, if_neg (by omega)]
      split <;> omega
theorem gln_step (ns : Nat → Nat) (k i j : Nat) (h : j ≠ k) : gln ns k (i + 1) j = gln ns k i j := by
  unfold gln
  by_cases h1 : j < k
  · rw [if_pos h1, if_pos h1]
  · rw [if_neg h1, if_neg h1, if_neg h, if_neg h]

/-- What stays so: the rows that came in, and where they lie. -/
structure GC (w0 : World) (vs : List Value) (ns : Nat → Nat) : Prop where
  lt : ∀ j b, j < vs.length → (vs.getD j (.slice none 0 0)).ownBlock = some b → b < w0.heap.size
  ap : ∀ j j' b, j < vs.length → j' < vs.length → j ≠ j' → (vs.getD j (.slice none 0 0)).ownBlock = some b → (vs.getD j' (.slice none 0 0)).ownBlock ≠ some b
  sh : ∀ j, j < vs.length → (vs.getD j (.slice none 0 0) = .slice none 0 0 ∧ ns j = 0) ∨ ∃ g cap, vs.getD j (.slice none 0 0) = .slice (some ⟨g, 0, none⟩) (ns j) cap ∧ ns j ≤ cap ∧ cap ≤ maxLen

/-- The rows up to k are grown, row k by i. -/
structure Gr (w0 : World) (base : Nat) (vs : List Value) (ns : Nat → Nat) (k i : Nat) (cur : Nat → Value) (gs : Value) (w : World) : Prop where
  own : ∀ j, j < vs.length → w.ownsRow base 5 1 (cur j) (gln ns k i j) ((mrks j (gln ns k i j)).map By)
  ap : ∀ j j' b, j < vs.length → j' < vs.length → j ≠ j' → (cur j).ownBlock = some b → (cur j').ownBlock ≠ some b
  old : ∀ j, j < vs.length → Rd w (vs.getD j (.slice none 0 0)) (mrks j (ns j))
  cor : ∀ j b, j < vs.length → (cur j).ownBlock = some b → (vs.getD j (.slice none 0 0)).ownBlock = some b ∨ w0.heap.size ≤ b
  gown : w.ownsRow w0.heap.size 22 1 gs k ((List.range k).map cur)
  gap : ∀ j b, j < vs.length → gs.ownBlock = some b → (cur j).ownBlock ≠ some b
  fr : Fr (fun b => ∃ j, j < vs.length ∧ (vs.getD j (.slice none 0 0)).ownBlock = some b) w0 w

theorem own_keepT {w w' : World} {base : Nat} {e : TypeId} {v : Value} {n : Nat} {xs : List Value} (h : w.ownsRow base e 1 v n xs) (hb : ∀ g, v.ownBlock = some g → w'.heap[g]? = w.heap[g]?) : w'.ownsRow base e 1 v n xs := by
  obtain ⟨h1, h2⟩ := h
  refine ⟨h1, ?_⟩
  rcases h2 with h2 | ⟨g, cap, cur, hv, hg, hh, r⟩
  · exact Or.inl h2
  · exact Or.inr ⟨g, cap, cur, hv, hg, by rw [hb g (by rw [hv]; rfl)]; exact hh, r⟩

theorem Gr.vap {w0 w : World} {base : Nat} {vs : List Value} {ns : Nat → Nat} {k i : Nat} {cur : Nat → Value} {gs : Value} (h : Gr w0 base vs ns k i cur gs w) (c : GC w0 vs ns) {j j' b : Nat} (hj : j < vs.length) (hj' : j' < vs.length) (hn : j ≠ j')
    (hb : (vs.getD j (.slice none 0 0)).ownBlock = some b) : (cur j').ownBlock ≠ some b := by
  intro e
  have hl := c.lt j b hj hb
  rcases h.cor j' b hj' e with q | q
  · exact c.ap j j' b hj hj' hn hb q
  · omega

/-- What a row grown in place, or moved, leaves of the others. -/
theorem Gr.step {w0 w w2 : World} {base : Nat} {vs : List Value} {ns : Nat → Nat} {k i : Nat} {cur : Nat → Value} {gs v' : Value} {o : Obj} (h : Gr w0 base vs ns k i cur gs w) (c : GC w0 vs ns) (hk : k < vs.length)
    (hown : w2.ownsRow base 5 1 v' (ns k + (i + 1)) ((mrks k (ns k + (i + 1))).map By)) (hg : (w.alloc o).grownBy w2 (cur k).ownBlock) (hat : v'.ownBlock = (cur k).ownBlock ∨ v'.ownBlock = some (w.heap.size + 1))
    (hR : Rd w2 (cur k) (mrks k (ns k + i))) : Gr w0 base vs ns k (i + 1) (updV cur k v') gs w2 := by
  have hz : (w.alloc o).heap.size = w.heap.size + 1 := by simp
  have hsz := hg.size
  have hblk : ∀ b, b < w.heap.size → (cur k).ownBlock ≠ some b → w2.heap[b]? = w.heap[b]? := fun b hb hn =>
    (hg.block b (by omega) (fun e => hn e.symm)).trans (Below.heap_alloc _ _ _ hb)
  refine ⟨fun j hj => ?_, fun j j' b hj hj' hn h1 h2 => ?_, fun j hj => ?_, fun j b hj hb => ?_, ?_, fun j b hj hb e => ?_, ?_⟩
  · by_cases e : j = k
    · subst e
      rw [updV_at, gln_at]
      exact hown
    · rw [updV_ne _ _ e, gln_step _ _ _ _ e]
      exact own_keepT (h.own j hj) (fun g hg2 => hblk g ((h.own j hj).lt g hg2).2 (fun e2 => h.ap j k g hj hk e hg2 e2))
  · by_cases e : j = k
    · subst e
      rw [updV_at] at h1
      rw [updV_ne _ _ (fun e => hn e.symm)] at h2
      rcases hat with q | q
      · exact h.ap j j' b hj hj' hn (q.symm.trans h1) h2
      · have := ((h.own j' hj').lt b h2).2
        rw [q] at h1
        simp at h1
        omega
    · rw [updV_ne _ _ e] at h1
      by_cases e2 : j' = k
      · subst e2
        rw [updV_at] at h2
        rcases hat with q | q
        · exact h.ap j j' b hj hj' hn h1 (q.symm.trans h2)
        · have := ((h.own j hj).lt b h1).2
          rw [q] at h2
          simp at h2
          omega
      · rw [updV_ne _ _ e2] at h2
        exact h.ap j j' b hj hj' hn h1 h2
  · have hold := h.old j hj
    rcases c.sh j hj with ⟨e1, e2⟩ | ⟨g, cap, e1, hc1, hc2⟩
    · rw [e1, e2]
      exact .inl ⟨rfl, rfl⟩
    · have hvb : (vs.getD j (.slice none 0 0)).ownBlock = some g := by rw [e1]; rfl
      have hgl := c.lt j g hj hvb
      have hgw : g < w.heap.size := Nat.lt_of_lt_of_le hgl h.fr.size
      by_cases e : (cur k).ownBlock = some g
      · have ejk : j = k := by
          by_cases ejk : j = k
          · exact ejk
          · exact absurd e (h.vap c hj hk ejk hvb)
        subst ejk
        rw [e1]
        have hck := (h.own j hj).2
        rw [gln_at] at hck
        rcases hck with ⟨q, _⟩ | ⟨g2, cap2, cur2, q, _⟩
        · rw [q] at e
          simp [Value.ownBlock] at e
        · rw [q] at e hR
          simp only [Value.ownBlock, Option.some.injEq] at e
          subst e
          exact hR.begin (by omega) hc1 hc2 (by omega)
      · have hb : w2.heap[g]? = w.heap[g]? := hblk g hgw e
        rw [e1] at hold ⊢
        rcases hold with ⟨q, _⟩ | ⟨b2, off2, cap2, q, q1, q2, q3, q4⟩
        · cases q
        · simp only [Value.slice.injEq, Option.some.injEq, Addr.mk.injEq] at q
          refine .inr ⟨g, 0, cap, by rw [mrks_length], by rw [mrks_length]; exact hc1, hc2, by omega, fun x hx => ?_⟩
          have := q4 x hx
          obtain ⟨⟨rfl, rfl, _⟩, _, rfl⟩ := q
          exact (World.cell?_of_block (a := ⟨g, 0 + x, none⟩) hb).trans this
  · by_cases e : j = k
    · subst e
      rw [updV_at] at hb
      rcases hat with q | q
      · exact h.cor j b hj (q.symm.trans hb)
      · rw [q] at hb
        simp at hb
        have := h.fr.size
        right; omega
    · rw [updV_ne _ _ e] at hb
      exact h.cor j b hj hb
  · rw [updV_range]
    exact own_keepT h.gown (fun g hg2 => hblk g (h.gown.lt g hg2).2 (h.gap k g hk hg2))
  · by_cases e2 : j = k
    · subst e2
      rw [updV_at] at e
      rcases hat with q | q
      · exact h.gap j b hj hb (q.symm.trans e)
      · have := (h.gown.lt b hb).2
        rw [q] at e
        simp at e
        omega
    · rw [updV_ne _ _ e2] at e
      exact h.gap j b hj hb e
  · refine (h.fr.alloc o).grown hg (fun b e => ?_)
    rcases h.cor k b hk e with q | q
    · exact .inr ⟨k, hk, q⟩
    · exact .inl q

/-- The grown row is laid behind the others. -/
theorem Gr.push {w0 w w2 : World} {base : Nat} {vs : List Value} {ns : Nat → Nat} {k : Nat} {cur : Nat → Value} {gs gs' : Value} {o : Obj} (h : Gr w0 base vs ns k 64 cur gs w) (c : GC w0 vs ns)
    (hown : w2.ownsRow w0.heap.size 22 1 gs' (k + 1) ((List.range k).map cur ++ [cur k])) (hg : (w.alloc o).grownBy w2 gs.ownBlock) (hat : gs'.ownBlock = gs.ownBlock ∨ gs'.ownBlock = some (w.heap.size + 1)) : Gr w0 base vs ns (k + 1) 0 cur gs' w2 := by
  have hz : (w.alloc o).heap.size = w.heap.size + 1 := by simp
  have hsz := hg.size
  have hblk : ∀ b, b < w.heap.size → gs.ownBlock ≠ some b → w2.heap[b]? = w.heap[b]? := fun b hb hn =>
    (hg.block b (by omega) (fun e => hn e.symm)).trans (Below.heap_alloc _ _ _ hb)
  have hgl : ∀ b, gs.ownBlock = some b → w0.heap.size ≤ b := fun b e => (h.gown.lt b e).1
  refine ⟨fun j hj => ?_, h.ap, fun j hj => ?_, h.cor, ?_, fun j b hj hb e => ?_, ?_⟩
  · rw [← gln_next]
    exact own_keepT (h.own j hj) (fun g hg2 => hblk g ((h.own j hj).lt g hg2).2 (fun e => h.gap j g hj e hg2))
  · have hold := h.old j hj
    rcases c.sh j hj with ⟨e1, e2⟩ | ⟨g, cap, e1, hc1, hc2⟩
    · rw [e1, e2]
      exact .inl ⟨rfl, rfl⟩
    · have hvb : (vs.getD j (.slice none 0 0)).ownBlock = some g := by rw [e1]; rfl
      have hgl2 := c.lt j g hj hvb
      have hgw : g < w.heap.size := Nat.lt_of_lt_of_le hgl2 h.fr.size
      have hb : w2.heap[g]? = w.heap[g]? := hblk g hgw (fun e => by have := hgl g e; omega)
      rw [e1] at hold ⊢
      rcases hold with ⟨q, _⟩ | ⟨b2, off2, cap2, q, q1, q2, q3, q4⟩
      · cases q
      · simp only [Value.slice.injEq, Option.some.injEq, Addr.mk.injEq] at q
        refine .inr ⟨g, 0, cap, by rw [mrks_length], by rw [mrks_length]; exact hc1, hc2, by omega, fun x hx => ?_⟩
        have := q4 x hx
        obtain ⟨⟨rfl, rfl, _⟩, _, rfl⟩ := q
        exact (World.cell?_of_block (a := ⟨g, 0 + x, none⟩) hb).trans this
  · rw [List.range_succ, List.map_append]
    exact hown
  · rcases hat with q | q
    · exact h.gap j b hj (q.symm.trans hb) e
    · have := ((h.own j hj).lt b e).2
      rw [q] at hb
      simp at hb
      omega
  · exact (h.fr.alloc o).grown hg (fun b e => .inl (hgl b e))

/-- Ahead of the first growing. -/
theorem Gr.start {w0 w : World} {base : Nat} {vs : List Value} {ns : Nat → Nat} (h : Mkd w0 base vs ns vs.length 0 w) (hlt : ∀ j b, j < vs.length → (vs.getD j (.slice none 0 0)).ownBlock = some b → b < w0.heap.size) :
    GC w0 vs ns ∧ Gr w0 base vs ns 0 0 (fun j => vs.getD j (.slice none 0 0)) (.slice none 0 0) w := by
  obtain ⟨xss, h1, h2, h3, _⟩ := h.ex
  have hx : ∀ j, j < vs.length → xss j = mrks j (ns j) := fun j hj => mrks_of j (ns j) (xss j) (h2 j) (fun i hi => h3 j hj i hi)
  have hg0 : ∀ j, gln ns 0 0 j = ns j := fun j => by unfold gln; rw [if_neg (by omega)]; split <;> omega
  have ho : ∀ j, j < vs.length → w.ownsRow base 5 1 (vs.getD j (.slice none 0 0)) (ns j) ((mrks j (ns j)).map By) := fun j hj => by
    have := h1.own j hj
    rw [hx j hj, mrks_length] at this
    exact this
  refine ⟨⟨hlt, h1.ap, fun j hj => ?_⟩, ⟨fun j hj => by rw [hg0]; exact ho j hj, h1.ap, fun j hj => ?_, fun j b hj hb => .inl hb, World.ownsRow_nil _ _ _ _, fun j b hj hb => by simp [Value.ownBlock] at hb, h1.fr⟩⟩
  · rcases (ho j hj).2 with ⟨e, h0⟩ | ⟨g, cap, cur, e, hb, hg, hn, hc, hs, ht⟩
    · exact .inl ⟨e, h0⟩
    · exact .inr ⟨g, cap, e, hn, hc⟩
  · have := ho j hj
    exact Rd.of_own (by rw [mrks_length]; exact this)


/-- A slice of slices reads so, in a block that is none of the rows'. -/
def RdV (w : World) (v : Value) (vs : List Value) : Prop :=
  ∃ a cap, v = .slice a vs.length cap ∧ ∀ i, i < vs.length → ∃ b off, a = some ⟨b, off, none⟩ ∧ b < w.heap.size ∧ w.cell? ⟨b, off + i, none⟩ = some (vs.getD i (.slice none 0 0)) ∧ ∀ k, k < vs.length → (vs.getD k (.slice none 0 0)).ownBlock ≠ some b

theorem Try.info22 : (Try.prog.info? 22).map (fun i => (i.zero, i.size, i.bytes)) = some (some (.slice none 0 0), 1, 24) := by kernel_rfl
/-- The shape of a row that came in. -/
theorem GC.shape {w0 : World} {vs : List Value} {ns : Nat → Nat} (c : GC w0 vs ns) {j : Nat} (hj : j < vs.length) : ∃ a cap, vs.getD j (.slice none 0 0) = .slice a (ns j) cap := by
  rcases c.sh j hj with ⟨e1, e2⟩ | ⟨g, cap, e1, _⟩
  · exact ⟨none, 0, by rw [e1, e2]⟩
  · exact ⟨_, cap, e1⟩
theorem row_shape {w : World} {base : Nat} {e : TypeId} {v : Value} {n : Nat} {xs : List Value} (h : w.ownsRow base e 1 v n xs) : ∃ a cap, v = .slice a n cap := by
  rcases h.2 with ⟨e1, e2⟩ | ⟨g, cap, cur, e1, _⟩
  · exact ⟨none, 0, by rw [e1, e2]⟩
  · exact ⟨_, cap, e1⟩

set_option maxHeartbeats 3200000 in
set_option maxRecDepth 100000 in
theorem apart_walk (lv : Value) (vs : List Value) (ns : Nat → Nat) (base : Nat) (w : World) (hV : RdV w lv vs) (hM : Mkd w base vs ns 0 0 w) (hK : vs.length ≤ 5864062014700) (hns : ∀ k, ns k ≤ 140737488355000) (hbase : base ≤ w.heap.size) (hltV : ∀ j b, j < vs.length → (vs.getD j (.slice none 0 0)).ownBlock = some b → b < w.heap.size) :
    Calls Try.prog 37 #[lv] w fun e w' => e = .returned (.bool true) ∧ Fr (fun b => ∃ j, j < vs.length ∧ (vs.getD j (.slice none 0 0)).ownBlock = some b) w w' := by
  obtain ⟨i0, hi0, hz0, hz1, hz2⟩ := info_parts Try.info22
  have HltV := hide hltV
  clear hltV
  obtain ⟨a, cap, rfl, hcell⟩ := hV
  have HC := hide hcell
  have Hns := hide hns
  obtain ⟨K, hKK⟩ : ∃ K, Hid (vs.length = K) := ⟨_, rfl⟩
  rw [unhide hKK] at hK ⊢
  have HM := hide hM
  clear hcell hM hns
  go_enter Try.func37, Try.ntmps37
  go_wp2
  go_loopg [3] K (fun k s wr => ∃ (j : Nat), Hid (j + k = K) ∧ s = .int .i64 (j : Int) ∧ Hid (Mkd w base vs ns j 0 wr))
  case atStart => exact ⟨0, by unfold Hid; omega, rfl, HM⟩
  case round =>
    obtain ⟨j, hj, rfl, hMk⟩ := hrel
    by_cases hlt : j < K
    · obtain ⟨cb, co, rfl, hcb, hc, hfar⟩ := unhide HC j (by rw [unhide hKK]; exact hlt)
      obtain ⟨ar, capr, hvj, _⟩ := (unhide hMk).cell (by rw [unhide hKK]; exact hlt)
      obtain ⟨n, hn⟩ : ∃ n, Hid (ns j = n) := ⟨_, rfl⟩
      rw [unhide hn] at hvj
      have hnb : n ≤ 140737488355000 := by rw [← unhide hn]; exact unhide Hns j
      have HVJ := hide hvj
      have Hfar := hide hfar
      have Hc := hide hc
      have i1 : (0 : Int) ≤ (j : Int) := by omega
      have i2 : (j : Int) < (K : Int) := by omega
      obtain ⟨G, hG⟩ : ∃ G, Hid (G = gk) := ⟨gk, rfl⟩
      clear hc hfar hvj
      go_wp2
      go_loopg [4] n (fun k s wr => ∃ (i : Nat), Hid (i + k = n) ∧ s = .int .i64 (i : Int) ∧ Hid (Mkd w base vs ns j i wr))
      case atStart => exact ⟨0, by unfold Hid; omega, rfl, hMk⟩
      case round =>
        obtain ⟨i, hi, rfl, hMi⟩ := hrel
        have hcr : wr.cell? ⟨cb, co + j, none⟩ = some (.slice ar n capr) := by
          obtain ⟨xss, h1, _, _, _⟩ := (unhide hMi).ex
          have h := h1.fr.cell (a := ⟨cb, co + j, none⟩) hcb (by rintro ⟨k, hk, hb⟩; exact unhide Hfar k hk hb)
          rw [h, unhide Hc, unhide HVJ]
        by_cases hin : i < n
        · obtain ⟨ar', capr', hv', hx⟩ := (unhide hMi).cell (by rw [unhide hKK]; exact hlt)
          obtain ⟨g, z, har, hgb, hz, hf⟩ := hx (by rw [unhide hn]; exact hin)
          have hb := hide ((unhide hMi).step (by rw [unhide hKK]; exact hlt) (by rw [unhide hn]; exact hin) hgb)
          obtain rfl : ar = some ⟨g, 0, none⟩ := by
            rw [unhide HVJ] at hv'
            simp only [Value.slice.injEq] at hv'
            rw [hv'.1, har]
          unfold mrk at hb
          have j1 : (0 : Int) ≤ (i : Int) := by omega
          have j2 : (i : Int) < (n : Int) := by omega
          clear hv' hx har hgb
          go_wp2
          go_roundg (gk - 1)
          case measure => have := unhide hi; omega
          case rel => exact ⟨i + 1, by have := unhide hi; unfold Hid; omega, by go_num, hb⟩
        · have hin' : i = n := by have := unhide hi; omega
          subst hin'
          have HN : Hid (Mkd w base vs ns (j + 1) 0 wr) := by
            have h := unhide hMi
            rw [← unhide hn] at h
            exact h.next
          go_wp2
          go_roundg (G - 1)
          case measure => have := unhide hj; have := unhide hG; omega
          case rel => exact ⟨j + 1, by have := unhide hj; have := unhide hG; unfold Hid; omega, by go_num, HN⟩
    · have hjK : K = j := by have := unhide hj; omega
      have hMK : Mkd w base vs ns vs.length 0 wr := by rw [unhide hKK, hjK]; exact unhide hMk
      obtain ⟨hgc, hgr⟩ := Gr.start hMK (unhide HltV)
      have HGC := hide hgc
      have HGR := hide hgr
      have i2 : ¬ (j : Int) < (K : Int) := by omega
      clear hMK hgc hgr hjK hMk
      go_wp2
      go_loopg [5, 6] K (fun k s5 s6 wr => ∃ (j : Nat) (cur : Nat → Value), Hid (j + k = K) ∧ s6 = .int .i64 (j : Int) ∧ Hid (∀ j', j ≤ j' → cur j' = vs.getD j' (.slice none 0 0)) ∧ Hid (Gr w base vs ns j 0 cur s5 wr))
      case atStart => exact ⟨0, _, by unfold Hid; omega, rfl, fun j' _ => rfl, HGR⟩
      case round =>
        obtain ⟨j, cur, hj, rfl, hcu, hGr⟩ := hrel
        by_cases hlt : j < K
        · obtain ⟨cb, co, rfl, hcb, hc, hfar⟩ := unhide HC j (by rw [unhide hKK]; exact hlt)
          have hjv : j < vs.length := by rw [unhide hKK]; exact hlt
          obtain ⟨ar, capr, hvj⟩ := (unhide HGC).shape hjv
          obtain ⟨n, hn⟩ : ∃ n, Hid (ns j = n) := ⟨_, rfl⟩
          have hnb : n ≤ 140737488355000 := by rw [← unhide hn]; exact unhide Hns j
          have hcu0 := unhide hcu j (Nat.le_refl _)
          rw [hvj] at hcu0
          rw [hvj] at hc
          rw [unhide hn] at hc hcu0
          have Hc := hide hc
          have HCU := hide hcu0
          have Hjv := hide hjv
          have Hfar : Hid (¬ ∃ j, j < vs.length ∧ (vs.getD j (.slice none 0 0)).ownBlock = some cb) := fun ⟨k, hk, hb⟩ => hfar k hk hb
          have hcr : wr.cell? ⟨cb, co + j, none⟩ = some (.slice ar n capr) := ((unhide hGr).fr.cell (a := ⟨cb, co + j, none⟩) hcb (unhide Hfar)).trans hc
          have i1 : (0 : Int) ≤ (j : Int) := by omega
          have i2 : (j : Int) < (K : Int) := by omega
          obtain ⟨G, hG⟩ : ∃ G, Hid (G = gk) := ⟨gk, rfl⟩
          clear hc hfar hvj hcu0 hjv
          go_wp2
          clear hcr
          go_loopg [7, 8] 64 (fun k s7 s8 wr => ∃ (i : Nat) (cur : Nat → Value), Hid (i + k = 64) ∧ i ≤ 64 ∧ s8 = .int .i64 (i : Int) ∧ Hid (cur j = s7 ∧ ∀ j', j + 1 ≤ j' → cur j' = vs.getD j' (.slice none 0 0)) ∧ Hid (Gr w base vs ns j i cur u5 wr))
          case atStart => exact ⟨0, cur, by unfold Hid; omega, by omega, rfl, ⟨unhide HCU, fun j' h => unhide hcu j' (by omega)⟩, hGr⟩
          case round =>
            obtain ⟨i, cur, hi, hi64, rfl, hcu7, hGi⟩ := hrel
            have hcr : wr.cell? ⟨cb, co + j, none⟩ = some (.slice ar n capr) := ((unhide hGi).fr.cell (a := ⟨cb, co + j, none⟩) hcb (unhide Hfar)).trans (unhide Hc)
            by_cases hin : i < 64
            · have j2 : (i : Int) < 64 := by omega
              obtain ⟨z, hz⟩ : ∃ z, IntKind.u8.wrap (37 * ((j : Int) + 1) + (n : Int) + (i : Int)) = z := ⟨_, rfl⟩
              have hzm : Hid (z = mrk j (n + i)) := by rw [Hid, ← hz, IntKind.wrap_u8]; unfold mrk; omega
              have hown := (unhide hGi).own j (unhide Hjv)
              rw [gln_at, (unhide hcu7).1, unhide hn] at hown
              have HO : Hid (wr.ownsRow base 5 1 u7 (mrks j (n + i)).length ((mrks j (n + i)).map By)) := by rw [Hid, mrks_length]; exact hown
              have hbs : Hid (base ≤ wr.heap.size) := Nat.le_trans hbase (unhide hGi).fr.size
              have e1 : IntKind.i64.wrap ((j : Int) + 1) = (j : Int) + 1 := by rw [IntKind.wrap_i64]; omega
              have e2 : IntKind.i64.wrap (37 * ((j : Int) + 1)) = 37 * ((j : Int) + 1) := by rw [IntKind.wrap_i64]; omega
              have e3 : IntKind.i64.wrap (37 * ((j : Int) + 1) + (n : Int)) = 37 * ((j : Int) + 1) + (n : Int) := by rw [IntKind.wrap_i64]; omega
              have e4 : IntKind.i64.wrap (37 * ((j : Int) + 1) + (n : Int) + (i : Int)) = 37 * ((j : Int) + 1) + (n : Int) + (i : Int) := by rw [IntKind.wrap_i64]; omega
              clear hown
              go_wp2_with (first | (at_builtin; refine wpList_append_keep rfl _ _ rfl base u7 (mrks j (n + i)) rfl ((unhide HO).alloc _) ⟨wr.heap.size, 0, none⟩ 1 z rfl (cell_one_new _ _ _) (by rw [mrks_length]; omega) (by have := unhide hbs; simp; omega) ?_))
              intro v' w2 hown' hgrow hat hRd
              have HN : Hid (Gr w base vs ns j (i + 1) (updV cur j v') u5 w2) := hide (by
                refine (unhide hGi).step (unhide HGC) (unhide Hjv) (o := _) ?_ (by rw [(unhide hcu7).1]; exact hgrow) (by rw [(unhide hcu7).1]; simpa using hat) (by rw [(unhide hcu7).1, unhide hn]; exact hRd)
                rw [unhide hn, ← Nat.add_assoc, mrks_succ, List.map_append]
                rw [mrks_length, unhide hzm] at hown'
                exact hown')
              clear hown' hgrow hat hRd
              go_wp2
              go_roundg (gk - 1)
              case measure => have := unhide hi; omega
              case rel => exact ⟨i + 1, updV cur j v', by have := unhide hi; unfold Hid; omega, by omega, by go_num, ⟨updV_at _ _ _, fun j' h => by rw [updV_ne _ _ (by omega)]; exact (unhide hcu7).2 j' h⟩, HN⟩
            · obtain rfl : i = 64 := by omega
              have j2 : ¬ ((64 : Nat) : Int) < 64 := by omega
              obtain ⟨a7, c7, h7⟩ := row_shape ((unhide hGi).own j (unhide Hjv))
              rw [gln_at, unhide hn, (unhide hcu7).1] at h7
              subst h7
              have HO := hide (unhide hGi).gown
              clear hcr
              go_wp2_with (first | (at_builtin; refine wpList_append_own_at _ rfl _ _ 66 rfl w.heap.size 22 i0 (.slice none 0 0) 1 24 Try.underlying66 hi0 hz0 hz1 hz2 rfl (by decide) _ _ _ rfl ((unhide HO).alloc _) ⟨wr.heap.size, 0, none⟩ 1 1 [.slice a7 (n + 64) c7] rfl rfl (cell_one_new _ _ _) (by simp [Value.oneCell']) (by unfold maxLen; omega) (by omega) (by have := (unhide hGi).fr.size; simp; omega) ?_))
              intro v' w2 hown' hgrow hnil hat
              have HN : Hid (Gr w base vs ns (j + 1) 0 cur v' w2) := hide ((unhide hGi).push (unhide HGC) (o := _) (by rw [(unhide hcu7).1]; exact hown') hgrow (by simpa using hat))
              clear hown' hgrow hnil hat
              go_wp2
              go_roundg (G - 1)
              case measure => have := unhide hj; have := unhide hG; omega
              case rel => exact ⟨j + 1, cur, by have := unhide hj; have := unhide hG; unfold Hid; omega, by go_num, (unhide hcu7).2, HN⟩
        · have hjK : K = j := by have := unhide hj; omega
          have hGK : Hid (Gr w base vs ns K 0 cur u5 wr) := by rw [hjK]; exact hGr
          have i2 : ¬ (j : Int) < (K : Int) := by omega
          obtain ⟨Y, hY⟩ : ∃ Y, Hid (Y = wr) := ⟨_, rfl⟩
          rw [← unhide hY] at hGK
          clear hjK hGr hcu
          go_wp2
          go_loopg [9] K (fun k s9 wq => ∃ (j : Nat), Hid (j + k = K) ∧ s9 = .int .i64 (j : Int) ∧ wq = Y)
          case atStart => exact ⟨0, by unfold Hid; omega, rfl, (unhide hY).symm⟩
          case round =>
            obtain ⟨j, hj, rfl, hwq⟩ := hrel
            have hwq := hwq.symm
            subst hwq
            by_cases hlt : j < K
            · obtain ⟨cb, co, rfl, hcb, hc, hfar⟩ := unhide HC j (by rw [unhide hKK]; exact hlt)
              have hjv : j < vs.length := by rw [unhide hKK]; exact hlt
              obtain ⟨ar, capr, hvj⟩ := (unhide HGC).shape hjv
              obtain ⟨n, hn⟩ : ∃ n, Hid (ns j = n) := ⟨_, rfl⟩
              have hnb : n ≤ 140737488355000 := by rw [← unhide hn]; exact unhide Hns j
              have hold := (unhide hGK).old j hjv
              rw [hvj, unhide hn] at hc hold
              have hcr : Y.cell? ⟨cb, co + j, none⟩ = some (.slice ar n capr) := ((unhide hGK).fr.cell (a := ⟨cb, co + j, none⟩) hcb (fun ⟨k, hk, hb⟩ => hfar k hk hb)).trans hc
              have hcj := (unhide hGK).own j hjv
              have hgl : gln ns K 0 j = n + 64 := by unfold gln; rw [if_pos hlt, unhide hn]
              rw [hgl] at hcj
              obtain ⟨a7, c7, h7⟩ := row_shape hcj
              have hrc := Rd.of_own (bs := mrks j (n + 64)) (by rw [mrks_length]; exact hcj)
              rw [h7] at hrc
              have hgs := (unhide hGK).gown
              obtain ⟨gb, gcap, hu5, hgc0⟩ : ∃ gb gcap, u5 = .slice (some ⟨gb, 0, none⟩) K gcap ∧ Y.cell? ⟨gb, j, none⟩ = some (.slice a7 (n + 64) c7) := by
                rcases hgs.2 with ⟨e1, e2⟩ | ⟨gb, gcap, cu, e1, _⟩
                · omega
                · refine ⟨gb, gcap, e1, ?_⟩
                  have := hgs.cells (g := gb) (by rw [e1]; rfl) j (cur j) (by rw [List.getElem?_map, List.getElem?_range hlt]; rfl)
                  rw [addr_add0, h7] at this
                  exact this
              subst hu5
              have i1 : (0 : Int) ≤ (j : Int) := by omega
              have i2 : (j : Int) < (K : Int) := by omega
              obtain ⟨G, hG⟩ : ∃ G, Hid (G = gk) := ⟨gk, rfl⟩
              have HOld := hide hold
              have HRc := hide hrc
              clear hc hfar hvj hold hcj hgl h7 hrc hgs hjv
              go_wp2
              go_loopg [10] (n + 64) (fun k s10 wq => ∃ (i : Nat), Hid (i + k = n + 64) ∧ s10 = .int .i64 (i : Int) ∧ wq = Y)
              case atStart => exact ⟨0, by unfold Hid; omega, rfl, rfl⟩
              case round =>
                obtain ⟨i, hi, rfl, hwq⟩ := hrel
                have hwq := hwq.symm
                subst hwq
                by_cases hin : i < n + 64
                · obtain ⟨b1, o1, rfl, hb1, hc1⟩ := (unhide HRc).at i (by rw [mrks_length]; exact hin)
                  rw [mrks_getD j (n + 64) i hin] at hc1
                  have j1 : (0 : Int) ≤ (i : Int) := by omega
                  have j2 : (i : Int) < (n : Int) + 64 := by omega
                  obtain ⟨z, hz⟩ : ∃ z, IntKind.u8.wrap (37 * ((j : Int) + 1) + (i : Int)) = z := ⟨_, rfl⟩
                  have hzm : mrk j i = z := by rw [← hz, IntKind.wrap_u8]; rfl
                  have e1 : IntKind.i64.wrap ((j : Int) + 1) = (j : Int) + 1 := by rw [IntKind.wrap_i64]; omega
                  have e2 : IntKind.i64.wrap (37 * ((j : Int) + 1)) = 37 * ((j : Int) + 1) := by rw [IntKind.wrap_i64]; omega
                  have e4 : IntKind.i64.wrap (37 * ((j : Int) + 1) + (i : Int)) = 37 * ((j : Int) + 1) + (i : Int) := by rw [IntKind.wrap_i64]; omega
                  have hezz : (z != z) = false := by simp
                  rw [hzm] at hc1
                  by_cases hil : i < n
                  · obtain ⟨b2, o2, rfl, hb2, hc2⟩ := (unhide HOld).at i (by rw [mrks_length]; exact hil)
                    rw [mrks_getD j n i hil, hzm] at hc2
                    have j3 : (i : Int) < (n : Int) := by omega
                    clear hzm
                    go_wp2
                    go_roundg (gk - 1)
                    case measure => have := unhide hi; omega
                    case rel => exact ⟨i + 1, by have := unhide hi; unfold Hid; omega, by go_num, rfl⟩
                  · have j3 : ¬ (i : Int) < (n : Int) := by omega
                    clear hzm
                    go_wp2
                    go_roundg (gk - 1)
                    case measure => have := unhide hi; omega
                    case rel => exact ⟨i + 1, by have := unhide hi; unfold Hid; omega, by go_num, rfl⟩
                · have j2 : ¬ (i : Int) < (n : Int) + 64 := by omega
                  go_wp2
                  go_roundg (G - 1)
                  case measure => have := unhide hj; have := unhide hG; omega
                  case rel => exact ⟨j + 1, by have := unhide hj; have := unhide hG; unfold Hid; omega, by go_num, rfl⟩
            · have i2 : ¬ (j : Int) < (K : Int) := by omega
              go_wp2
              go_ret
              exact ⟨rfl, by have h := (unhide hGK).fr; rw [unhide hKK] at h; exact h⟩
end Go.Proofs.Ytnfinplkeefdgaa
