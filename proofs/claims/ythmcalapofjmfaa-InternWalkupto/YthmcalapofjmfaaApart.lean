/-
  Apart, of rows that are one's own.
-/
import Derived.Test.YthmcalapofjmfaaGrow
import Derived.Deep.RegionHeld3
namespace Go.Proofs.Ythmcalapofjmfaa
open Go.RowKit Go.Maps
set_option linter.unusedVariables false

/-- A slice of slices reads so, in a block that is none of the rows'. -/
def RdV (w : World) (v : Value) (vs : List Value) : Prop :=
  ∃ a cap, v = .slice a vs.length cap ∧ ∀ i, i < vs.length → ∃ b off, a = some ⟨b, off, none⟩ ∧ b < w.heap.size ∧ w.cell? ⟨b, off + i, none⟩ = some (vs.getD i (.slice none 0 0)) ∧ ∀ k, k < vs.length → (vs.getD k (.slice none 0 0)).ownBlock ≠ some b

theorem Try.info26 : (Try.prog.info? 26).map (fun i => (i.zero, i.size, i.bytes)) = some (some (.slice none 0 0), 1, 24) := by kernel_rfl
/-- The shape of a row that came in. -/
theorem GC.shape {w0 : World} {vs : List Value} {ns : Nat → Nat} (c : GC w0 vs ns) {j : Nat} (hj : j < vs.length) : ∃ a cap, vs.getD j (.slice none 0 0) = .slice a (ns j) cap := by
  rcases c.sh j hj with ⟨e1, e2⟩ | ⟨g, cap, e1, _⟩
  · exact ⟨none, 0, by rw [e1, e2]⟩
  · exact ⟨_, cap, e1⟩
theorem row_shape {w : World} {base : Nat} {e : TypeId} {v : Value} {n : Nat} {xs : List Value} (h : w.ownsRow base e 1 v n xs) : ∃ a cap, v = .slice a n cap := by
  rcases h.2 with ⟨e1, e2⟩ | ⟨g, cap, cur, e1, _⟩
  · exact ⟨none, 0, by rw [e1, e2]⟩
  · exact ⟨_, cap, e1⟩

theorem Mkd.alloc {w0 w : World} {base : Nat} {vs : List Value} {ns : Nat → Nat} {k i : Nat} (h : Mkd w0 base vs ns k i w) (o : Obj) : Mkd w0 base vs ns k i (w.alloc o) := by
  obtain ⟨xss, h1, h2⟩ := h.ex
  exact ⟨xss, ⟨fun j hj => (h1.own j hj).alloc o, h1.ap, h1.fr.alloc o⟩, h2⟩
theorem Mkd.drew {w0 w : World} {base : Nat} {vs : List Value} {ns : Nat → Nat} {k i : Nat} (h : Mkd w0 base vs ns k i w) : Mkd w0 base vs ns k i w.drew := by
  obtain ⟨xss, h1, h2⟩ := h.ex
  exact ⟨xss, ⟨fun j hj => own_keep (h1.own j hj) (fun _ _ => rfl), h1.ap, h1.fr.drew⟩, h2⟩
theorem Gr.alloc {w0 w : World} {base : Nat} {vs : List Value} {ns : Nat → Nat} {k i : Nat} {cur : Nat → Value} {gs : Value} (h : Gr w0 base vs ns k i cur gs w) (o : Obj) : Gr w0 base vs ns k i cur gs (w.alloc o) :=
  ⟨fun j hj => (h.own j hj).alloc o, h.ap, fun j hj => (h.old j hj).below ((Below.refl _ _).alloc (Nat.le_refl _) o), h.cor, h.gown.alloc o, h.gap, h.fr.alloc o⟩

set_option maxHeartbeats 3200000 in
set_option maxRecDepth 100000 in
theorem apart_walk (lv : Value) (vs : List Value) (ns : Nat → Nat) (base : Nat) (w : World) (hV : RdV w lv vs) (hM : Mkd w base vs ns 0 0 w) (hK : vs.length ≤ 5864062014700) (hns : ∀ k, ns k ≤ 11999999999900) (hbase : base ≤ w.heap.size) (hltV : ∀ j b, j < vs.length → (vs.getD j (.slice none 0 0)).ownBlock = some b → b < w.heap.size) :
    Calls Try.prog 36 #[lv] w fun e w' => e = .returned (.bool true) ∧ Fr (fun b => ∃ j, j < vs.length ∧ (vs.getD j (.slice none 0 0)).ownBlock = some b) w w' := by
  obtain ⟨i0, hi0, hz0, hz1, hz2⟩ := info_parts Try.info26
  have HltV := hide hltV
  clear hltV
  obtain ⟨a, cap, rfl, hcell⟩ := hV
  have HC := hide hcell
  have Hns := hide hns
  obtain ⟨K, hKK⟩ : ∃ K, Hid (vs.length = K) := ⟨_, rfl⟩
  rw [unhide hKK] at hK ⊢
  have HM := hide hM
  clear hcell hM hns
  go_enter Try.func36, Try.ntmps36
  go_wp2
  go_loopg [3] K (fun k s wr => ∃ (j : Nat), Hid (j + k = K) ∧ s = .int .i64 (j : Int) ∧ Hid (Mkd w base vs ns j 0 wr))
  case atStart => exact ⟨0, by unfold Hid; omega, rfl, HM⟩
  case round =>
    obtain ⟨j, hj, rfl, hMk⟩ := hrel
    by_cases hlt : j < K
    · obtain ⟨cb, co, rfl, hcb, hc, hfar⟩ := unhide HC j (by rw [unhide hKK]; exact hlt)
      obtain ⟨ar, capr, hvj, _⟩ := (unhide hMk).cell (by rw [unhide hKK]; exact hlt)
      obtain ⟨n, hn⟩ : ∃ n, Hid (ns j = n) := ⟨_, rfl⟩
      rw [unhide hn] at hvj
      have hnb : n ≤ 11999999999900 := by rw [← unhide hn]; exact unhide Hns j
      have HVJ := hide hvj
      have Hfar := hide hfar
      have Hc := hide hc
      have i1 : (0 : Int) ≤ (j : Int) := by omega
      have i2 : (j : Int) < (K : Int) := by omega
      obtain ⟨G, hG⟩ : ∃ G, Hid (G = gk) := ⟨gk, rfl⟩
      clear hc hfar hvj
      go_wp2
      go_loopg [4] n (fun k s wr => ∃ (i : Nat), Hid (i + k = n) ∧ s = .int .i64 (i : Int) ∧ Hid (Mkd w base vs ns j i wr))
      case atStart => exact ⟨0, by unfold Hid; omega, rfl, hMk⟩
      case round =>
        obtain ⟨i, hi, rfl, hMi⟩ := hrel
        have hcr : wr.cell? ⟨cb, co + j, none⟩ = some (.slice ar n capr) := by
          obtain ⟨xss, h1, _, _, _⟩ := (unhide hMi).ex
          have h := h1.fr.cell (a := ⟨cb, co + j, none⟩) hcb (by rintro ⟨k, hk, hb⟩; exact unhide Hfar k hk hb)
          rw [h, unhide Hc, unhide HVJ]
        by_cases hin : i < n
        · obtain ⟨ar', capr', hv', hx⟩ := (unhide hMi).cell (by rw [unhide hKK]; exact hlt)
          obtain ⟨g, z, har, hgb, hz, hf⟩ := hx (by rw [unhide hn]; exact hin)
          have hb := hide (fun (W : World) (hW : Mkd w base vs ns j i W) => hW.step (by rw [unhide hKK]; exact hlt) (by rw [unhide hn]; exact hin) hgb)
          obtain rfl : ar = some ⟨g, 0, none⟩ := by
            rw [unhide HVJ] at hv'
            simp only [Value.slice.injEq] at hv'
            rw [hv'.1, har]
          have j1 : (0 : Int) ≤ (i : Int) := by omega
          have j2 : (i : Int) < (n : Int) := by omega
          have hMark := hide (mark_any wr.drew j i (by omega) (by omega))
          obtain ⟨mk, hmk⟩ : ∃ mk, Hid (mrk j i = mk) := ⟨_, rfl⟩
          rw [unhide hmk] at hMark hb
          have hgl : Hid (g < wr.heap.size) := World.block_lt_of_cell? _ _ hz
          have hcbl : Hid (cb < wr.heap.size) := World.block_lt_of_cell? _ _ hcr
          have hne : Hid (cb ≠ g) := fun e => unhide Hfar j (by rw [unhide hKK]; exact hlt) (by rw [e]; exact hgb)
          clear hv' hx har hgb
          go_wp2
          refine wp_region_held_drew (S := fun wx => wx.cell? ⟨cb, co + j, none⟩ = some (.slice (some ⟨g, 0, none⟩) n capr) ∧ (∃ z, wx.cell? ⟨g, i, none⟩ = some (.string z)) ∧ wx.frozen? ⟨g, i, none⟩ = false) (by kernel_rfl) ⟨hcr, ⟨z, hz⟩, hf⟩ (fun hHeld => ?_)
          refine wpAnyH_take (i := 0) (oi := _) (v := .slice (some ⟨cb, co, none⟩) K cap) rfl (by kernel_rfl) (by kernel_rfl) (by kernel_rfl) (fun _ _ _ h => h) (Or.inl ⟨by rfl, (by intro w hSw; go_simp)⟩) (by assumption) ?_
          refine wpAnyH_take (i := 1) (oi := _) (v := .int .i64 (j : Int)) rfl (by kernel_rfl) (by kernel_rfl) (by kernel_rfl) (fun _ _ _ h => h) (Or.inl ⟨by rfl, (by intro w hSw; go_simp)⟩) (by assumption) ?_
          refine wpAnyH_take (i := 2) (oi := _) (v := .pointer (some ⟨cb, co + j, none⟩)) rfl (by kernel_rfl) (by kernel_rfl) (by kernel_rfl) (fun _ _ _ h => h) (Or.inl ⟨by rfl, (by intro w hSw; go_simp)⟩) (by assumption) ?_
          go_simp
          refine wpAnyH_take (i := 3) (oi := _) (v := .slice (some ⟨g, 0, none⟩) n capr) rfl (by kernel_rfl) (by kernel_rfl) (by kernel_rfl) (fun _ _ _ h => h) (Or.inl ⟨by rfl, (by intro w hSw; go_simp)⟩) (by assumption) ?_
          refine wpAnyH_take (i := 4) (oi := _) (v := .int .i64 (i : Int)) rfl (by kernel_rfl) (by kernel_rfl) (by kernel_rfl) (fun _ _ _ h => h) (Or.inl ⟨by rfl, (by intro w hSw; go_simp)⟩) (by assumption) ?_
          refine wpAnyH_take (i := 5) (oi := _) (v := .int .i64 (j : Int)) rfl (by kernel_rfl) (by kernel_rfl) (by kernel_rfl) (fun _ _ _ h => h) (Or.inl ⟨by rfl, (by intro w hSw; go_simp)⟩) (by assumption) ?_
          go_simp
          refine wpAnyH_take (i := 6) (oi := _) (v := .int .i64 (i : Int)) rfl (by kernel_rfl) (by kernel_rfl) (by kernel_rfl) (fun _ _ _ h => h) (Or.inl ⟨by rfl, (by intro w hSw; go_simp)⟩) (by assumption) ?_
          simp only [Act.put, List.setIfInBounds_toArray]
          refine wpAnyH_ready (rs := [7]) (by kernel_rfl) (by simp) ?_
          refine AllReadyH.cons (o := _) rfl (fun K hK => ?_) AllReadyH.nil
          go_simp
          refine (unhide hMark).mono ?_
          rintro e w5 ⟨rfl, o5, rfl⟩
          have k1 : (wr.drew.alloc o5).cell? ⟨cb, co + j, none⟩ = some (.slice (some ⟨g, 0, none⟩) n capr) := (World.cell?_of_block (Below.heap_alloc wr.drew o5 cb (unhide hcbl))).trans hcr
          have k2 : (wr.drew.alloc o5).cell? ⟨g, i, none⟩ = some (.string z) := (World.cell?_of_block (Below.heap_alloc wr.drew o5 g (unhide hgl))).trans hz
          have k3 : (wr.drew.alloc o5).frozen? ⟨g, i, none⟩ = false := (World.frozen?_of_block (Below.heap_alloc wr.drew o5 g (unhide hgl))).trans hf
          go_simp
          refine hK.out _ _ ⟨k1, ⟨z, k2⟩, k3⟩ (fun hHeld1 => ?_)
          clear hK
          refine wpAnyH_take (i := 8) (oi := _) (v := .pointer (some ⟨g, i, none⟩)) rfl (by kernel_rfl) (by kernel_rfl) (by kernel_rfl) (fun _ _ _ h => h) (Or.inl ⟨by rfl, (by intro w hSw; go_simp)⟩) (by assumption) ?_
          simp only [Act.put, List.setIfInBounds_toArray]
          refine wpAnyH_ready (rs := [9]) (by kernel_rfl) (by simp) ?_
          refine AllReadyH.cons (o := _) rfl (fun K2 hK2 => ?_) AllReadyH.nil
          have hb := hide (unhide hb _ ((unhide hMi).alloc o5)).drew
          have k2' : (wr.alloc o5).cell? ⟨g, i, none⟩ = some (.string z) := k2
          have k3' : (wr.alloc o5).frozen? ⟨g, i, none⟩ = false := k3
          go_simp
          refine hK2.out _ _ ⟨?_, ⟨mk, ?_⟩, ?_⟩ (fun hHeld2 => ?_)
          · show ((wr.alloc o5).setCell ⟨g, i, none⟩ (.string mk)).cell? ⟨cb, co + j, none⟩ = _
            rw [World.cell?_setCell_other _ _ _ _ (by intro e; exact unhide hne (congrArg Addr.block e).symm)]; exact k1
          · exact World.cell?_setCell_same (wr.alloc o5) _ _ k2
          · show ((wr.alloc o5).setCell ⟨g, i, none⟩ (.string mk)).frozen? ⟨g, i, none⟩ = false
            rw [World.frozen?_setCell]; exact k3
          clear hK2
          refine wpAnyH_done (by kernel_rfl) ?_ _
          go_wp2
          go_roundg (gk - 1)
          case measure => have := unhide hi; omega
          case rel => exact ⟨i + 1, by have := unhide hi; unfold Hid; omega, by go_num, hb⟩
        · have hin' : i = n := by have := unhide hi; omega
          subst hin'
          have HN : Hid (Mkd w base vs ns (j + 1) 0 wr) := by
            have h := unhide hMi
            rw [← unhide hn] at h
            exact h.next
          go_wp2
          go_roundg (G - 1)
          case measure => have := unhide hj; have := unhide hG; omega
          case rel => exact ⟨j + 1, by have := unhide hj; have := unhide hG; unfold Hid; omega, by go_num, HN⟩
    · have hjK : K = j := by have := unhide hj; omega
      have hMK : Mkd w base vs ns vs.length 0 wr := by rw [unhide hKK, hjK]; exact unhide hMk
      obtain ⟨hgc, hgr⟩ := Gr.start hMK (unhide HltV)
      have HGC := hide hgc
      have HGR := hide hgr
      have i2 : ¬ (j : Int) < (K : Int) := by omega
      clear hMK hgc hgr hjK hMk
      go_wp2
      go_loopg [5, 6] K (fun k s5 s6 wr => ∃ (j : Nat) (cur : Nat → Value), Hid (j + k = K) ∧ s6 = .int .i64 (j : Int) ∧ Hid (∀ j', j ≤ j' → cur j' = vs.getD j' (.slice none 0 0)) ∧ Hid (Gr w base vs ns j 0 cur s5 wr))
      case atStart => exact ⟨0, _, by unfold Hid; omega, rfl, fun j' _ => rfl, HGR⟩
      case round =>
        obtain ⟨j, cur, hj, rfl, hcu, hGr⟩ := hrel
        by_cases hlt : j < K
        · obtain ⟨cb, co, rfl, hcb, hc, hfar⟩ := unhide HC j (by rw [unhide hKK]; exact hlt)
          have hjv : j < vs.length := by rw [unhide hKK]; exact hlt
          obtain ⟨ar, capr, hvj⟩ := (unhide HGC).shape hjv
          obtain ⟨n, hn⟩ : ∃ n, Hid (ns j = n) := ⟨_, rfl⟩
          have hnb : n ≤ 11999999999900 := by rw [← unhide hn]; exact unhide Hns j
          have hcu0 := unhide hcu j (Nat.le_refl _)
          rw [hvj] at hcu0
          rw [hvj] at hc
          rw [unhide hn] at hc hcu0
          have Hc := hide hc
          have HCU := hide hcu0
          have Hjv := hide hjv
          have Hfar : Hid (¬ ∃ j, j < vs.length ∧ (vs.getD j (.slice none 0 0)).ownBlock = some cb) := fun ⟨k, hk, hb⟩ => hfar k hk hb
          have hcr : wr.cell? ⟨cb, co + j, none⟩ = some (.slice ar n capr) := ((unhide hGr).fr.cell (a := ⟨cb, co + j, none⟩) hcb (unhide Hfar)).trans hc
          have i1 : (0 : Int) ≤ (j : Int) := by omega
          have i2 : (j : Int) < (K : Int) := by omega
          obtain ⟨G, hG⟩ : ∃ G, Hid (G = gk) := ⟨gk, rfl⟩
          clear hc hfar hvj hcu0 hjv
          go_wp2
          clear hcr
          go_loopg [7, 8] 64 (fun k s7 s8 wr => ∃ (i : Nat) (cur : Nat → Value), Hid (i + k = 64) ∧ i ≤ 64 ∧ s8 = .int .i64 (i : Int) ∧ Hid (cur j = s7 ∧ ∀ j', j + 1 ≤ j' → cur j' = vs.getD j' (.slice none 0 0)) ∧ Hid (Gr w base vs ns j i cur u5 wr))
          case atStart => exact ⟨0, cur, by unfold Hid; omega, by omega, rfl, ⟨unhide HCU, fun j' h => unhide hcu j' (by omega)⟩, hGr⟩
          case round =>
            obtain ⟨i, cur, hi, hi64, rfl, hcu7, hGi⟩ := hrel
            have hcr : wr.cell? ⟨cb, co + j, none⟩ = some (.slice ar n capr) := ((unhide hGi).fr.cell (a := ⟨cb, co + j, none⟩) hcb (unhide Hfar)).trans (unhide Hc)
            by_cases hin : i < 64
            · have j2 : (i : Int) < 64 := by omega
              obtain ⟨z, hzm⟩ : ∃ z, Hid (z = mrk j (n + i)) := ⟨_, rfl⟩
              have hown := (unhide hGi).own j (unhide Hjv)
              rw [gln_at, (unhide hcu7).1, unhide hn] at hown
              have HO : Hid (wr.ownsRow base 9 1 u7 (mrks j (n + i)).length ((mrks j (n + i)).map Value.string)) := by rw [Hid, mrks_length]; exact hown
              have hbs : Hid (base ≤ wr.heap.size) := Nat.le_trans hbase (unhide hGi).fr.size
              have hMark := mark_any wr j (n + i) (by omega) (by omega)
              rw [Int.natCast_add, ← unhide hzm] at hMark
              have HMark := hide hMark
              clear hown hMark
              go_wp2_with fail
              refine (unhide HMark).mono ?_
              rintro e w5 ⟨rfl, o5, rfl⟩
              have hGa := hide ((unhide hGi).alloc o5)
              clear hcr HMark
              go_wp2_with (first | (at_builtin; refine wpList_append_keep rfl _ _ rfl base u7 (mrks j (n + i)) rfl (((unhide HO).alloc _).alloc _) ⟨wr.heap.size + 1, 0, none⟩ 1 z rfl (by have := cell_one_new (wr.alloc o5) (.string z) 9; simpa using this) (by rw [mrks_length]; omega) (by have := unhide hbs; simp; omega) ?_))
              intro v' w2 hown' hgrow hat hRd
              have HN : Hid (Gr w base vs ns j (i + 1) (updV cur j v') u5 w2) := hide (by
                refine (unhide hGa).step (unhide HGC) (unhide Hjv) (o := _) ?_ (by rw [(unhide hcu7).1]; exact hgrow) (by rw [(unhide hcu7).1]; simpa using hat) (by rw [(unhide hcu7).1, unhide hn]; exact hRd)
                rw [unhide hn, ← Nat.add_assoc, mrks_succ, List.map_append]
                rw [mrks_length, unhide hzm] at hown'
                exact hown')
              clear hown' hgrow hat hRd
              go_wp2
              go_roundg (gk - 1)
              case measure => have := unhide hi; omega
              case rel => exact ⟨i + 1, updV cur j v', by have := unhide hi; unfold Hid; omega, by omega, by go_num, ⟨updV_at _ _ _, fun j' h => by rw [updV_ne _ _ (by omega)]; exact (unhide hcu7).2 j' h⟩, HN⟩
            · obtain rfl : i = 64 := by omega
              have j2 : ¬ ((64 : Nat) : Int) < 64 := by omega
              obtain ⟨a7, c7, h7⟩ := row_shape ((unhide hGi).own j (unhide Hjv))
              rw [gln_at, unhide hn, (unhide hcu7).1] at h7
              subst h7
              have HO := hide (unhide hGi).gown
              clear hcr
              go_wp2_with (first | (at_builtin; refine wpList_append_own_at _ rfl _ _ 28 rfl w.heap.size 26 i0 (.slice none 0 0) 1 24 Try.underlying28 hi0 hz0 hz1 hz2 rfl (by decide) _ _ _ rfl ((unhide HO).alloc _) ⟨wr.heap.size, 0, none⟩ 1 1 [.slice a7 (n + 64) c7] rfl rfl (cell_one_new _ _ _) (by simp [Value.oneCell']) (by unfold maxLen; omega) (by omega) (by have := (unhide hGi).fr.size; simp; omega) ?_))
              intro v' w2 hown' hgrow hnil hat
              have HN : Hid (Gr w base vs ns (j + 1) 0 cur v' w2) := hide ((unhide hGi).push (unhide HGC) (o := _) (by rw [(unhide hcu7).1]; exact hown') hgrow (by simpa using hat))
              clear hown' hgrow hnil hat
              go_wp2
              go_roundg (G - 1)
              case measure => have := unhide hj; have := unhide hG; omega
              case rel => exact ⟨j + 1, cur, by have := unhide hj; have := unhide hG; unfold Hid; omega, by go_num, (unhide hcu7).2, HN⟩
        · have hjK : K = j := by have := unhide hj; omega
          have hGK : Hid (Gr w base vs ns K 0 cur u5 wr) := by rw [hjK]; exact hGr
          have i2 : ¬ (j : Int) < (K : Int) := by omega
          obtain ⟨Y, hY⟩ : ∃ Y, Hid (Y = wr) := ⟨_, rfl⟩
          rw [← unhide hY] at hGK
          clear hjK hGr hcu
          go_wp2
          go_loopg [9] K (fun k s9 wq => ∃ (j : Nat), Hid (j + k = K) ∧ s9 = .int .i64 (j : Int) ∧ Hid (Below Y.heap.size Y wq))
          case atStart => exact ⟨0, by unfold Hid; omega, rfl, by rw [unhide hY]; exact Below.refl _ _⟩
          case round =>
            obtain ⟨j, hj, rfl, HBY⟩ := hrel
            by_cases hlt : j < K
            · obtain ⟨cb, co, rfl, hcb, hc, hfar⟩ := unhide HC j (by rw [unhide hKK]; exact hlt)
              have hjv : j < vs.length := by rw [unhide hKK]; exact hlt
              obtain ⟨ar, capr, hvj⟩ := (unhide HGC).shape hjv
              obtain ⟨n, hn⟩ : ∃ n, Hid (ns j = n) := ⟨_, rfl⟩
              have hnb : n ≤ 11999999999900 := by rw [← unhide hn]; exact unhide Hns j
              have hold := (unhide hGK).old j hjv
              rw [hvj, unhide hn] at hc hold
              have hcr0 : Y.cell? ⟨cb, co + j, none⟩ = some (.slice ar n capr) := ((unhide hGK).fr.cell (a := ⟨cb, co + j, none⟩) hcb (fun ⟨k, hk, hb⟩ => hfar k hk hb)).trans hc
              have HCR := hide hcr0
              have hcj := (unhide hGK).own j hjv
              have hgl : gln ns K 0 j = n + 64 := by unfold gln; rw [if_pos hlt, unhide hn]
              rw [hgl] at hcj
              obtain ⟨a7, c7, h7⟩ := row_shape hcj
              have hrc := Rt.own (rs := mrks j (n + 64)) (by rw [mrks_length]; exact hcj)
              rw [h7] at hrc
              have hgs := (unhide hGK).gown
              obtain ⟨gb, gcap, hu5, hgc0⟩ : ∃ gb gcap, u5 = .slice (some ⟨gb, 0, none⟩) K gcap ∧ Y.cell? ⟨gb, j, none⟩ = some (.slice a7 (n + 64) c7) := by
                rcases hgs.2 with ⟨e1, e2⟩ | ⟨gb, gcap, cu, e1, _⟩
                · omega
                · refine ⟨gb, gcap, e1, ?_⟩
                  have := hgs.cells (g := gb) (by rw [e1]; rfl) j (cur j) (by rw [List.getElem?_map, List.getElem?_range hlt]; rfl)
                  rw [addr_add0, h7] at this
                  exact this
              subst hu5
              have HGC0 := hide hgc0
              have hlook := hide (fun (W : World) (hB : Below Y.heap.size Y W) => (And.intro ((hB.cell (p := ⟨cb, co + j, none⟩) (World.block_lt_of_cell? _ _ hcr0)).trans hcr0) ((hB.cell (p := ⟨gb, j, none⟩) (World.block_lt_of_cell? _ _ hgc0)).trans hgc0)))
              obtain ⟨kx1, kx2⟩ := unhide hlook _ (unhide HBY)
              have i1 : (0 : Int) ≤ (j : Int) := by omega
              have i2 : (j : Int) < (K : Int) := by omega
              obtain ⟨G, hG⟩ : ∃ G, Hid (G = gk) := ⟨gk, rfl⟩
              have HOld := hide hold
              have HRc := hide hrc
              clear hc hfar hvj hold hcj hgl h7 hrc hgs hjv hcr0 hgc0
              go_wp2
              clear kx1 kx2
              go_loopg [10] (n + 64) (fun k s10 wq => ∃ (i : Nat), Hid (i + k = n + 64) ∧ s10 = .int .i64 (i : Int) ∧ Hid (Below Y.heap.size Y wq))
              case atStart => exact ⟨0, by unfold Hid; omega, rfl, HBY⟩
              case round =>
                clear HBY
                obtain ⟨i, hi, rfl, HBY⟩ := hrel
                obtain ⟨kx1, kx2⟩ := unhide hlook _ (unhide HBY)
                by_cases hin : i < n + 64
                · have hin2 : Hid (i < (mrks j (n + 64)).length) := by rw [Hid, mrks_length]; exact hin
                  obtain ⟨a7', c7', e7, _, _, h73⟩ := unhide HRc
                  rw [mrks_length] at e7
                  cases e7
                  obtain ⟨b1, o1, rfl, hb1, hc1⟩ := h73 i (unhide hin2)
                  rw [mrks_tx j (n + 64) i hin] at hc1
                  have HC1 := hide hc1
                  have j1 : (0 : Int) ≤ (i : Int) := by omega
                  have j2 : (i : Int) < (n : Int) + 64 := by omega
                  have hMark := mark_any wr j i (by omega) (by omega)
                  obtain ⟨z, hzm⟩ : ∃ z, Hid (mrk j i = z) := ⟨_, rfl⟩
                  rw [unhide hzm] at hMark HC1
                  have HMark := hide hMark
                  clear hMark hc1 h73
                  by_cases hil : i < n
                  · obtain ⟨ar', capr', e8, _, _, h83⟩ := unhide HOld
                    rw [mrks_length] at e8
                    cases e8
                    obtain ⟨b2, o2, rfl, hb2, hc2⟩ := h83 i (by rw [mrks_length]; exact hil)
                    rw [mrks_tx j n i hil, unhide hzm] at hc2
                    have HC2 := hide hc2
                    have j3 : (i : Int) < (n : Int) := by omega
                    clear hc2 h83
                    go_wp2_with fail
                    refine (unhide HMark).mono ?_
                    rintro e w5 ⟨rfl, o5, rfl⟩
                    have HB5 := hide ((unhide HBY).alloc (unhide HBY).size o5)
                    obtain ⟨ky1, ky2⟩ := unhide hlook _ (unhide HB5)
                    have kc1 := ((unhide HB5).cell (p := ⟨b1, o1 + i, none⟩) hb1).trans (unhide HC1)
                    have kc2 := ((unhide HB5).cell (p := ⟨b2, o2 + i, none⟩) hb2).trans (unhide HC2)
                    clear kx1 kx2
                    go_wp2
                    go_roundg (gk - 1)
                    case measure => have := unhide hi; omega
                    case rel => exact ⟨i + 1, by have := unhide hi; unfold Hid; omega, by go_num, HB5⟩
                  · have j3 : ¬ (i : Int) < (n : Int) := by omega
                    go_wp2_with fail
                    refine (unhide HMark).mono ?_
                    rintro e w5 ⟨rfl, o5, rfl⟩
                    have HB5 := hide ((unhide HBY).alloc (unhide HBY).size o5)
                    obtain ⟨ky1, ky2⟩ := unhide hlook _ (unhide HB5)
                    have kc1 := ((unhide HB5).cell (p := ⟨b1, o1 + i, none⟩) hb1).trans (unhide HC1)
                    clear kx1 kx2
                    go_wp2
                    go_roundg (gk - 1)
                    case measure => have := unhide hi; omega
                    case rel => exact ⟨i + 1, by have := unhide hi; unfold Hid; omega, by go_num, HB5⟩
                · have j2 : ¬ (i : Int) < (n : Int) + 64 := by omega
                  go_wp2
                  go_roundg (G - 1)
                  case measure => have := unhide hj; have := unhide hG; omega
                  case rel => exact ⟨j + 1, by have := unhide hj; have := unhide hG; unfold Hid; omega, by go_num, HBY⟩
            · have i2 : ¬ (j : Int) < (K : Int) := by omega
              go_wp2
              go_ret
              exact ⟨rfl, by have h := (unhide hGK).fr; rw [unhide hKK] at h; exact h.trans (Fr.of_below (unhide HBY))⟩
end Go.Proofs.Ythmcalapofjmfaa
