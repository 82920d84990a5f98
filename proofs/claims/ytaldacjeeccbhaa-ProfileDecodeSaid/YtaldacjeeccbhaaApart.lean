/-
  Apart, of rows that are one's own.
-/
import Derived.Test.YtaldacjeeccbhaaGrow
namespace Go.Proofs.Ytaldacjeeccbhaa
open Go.RowKit

/-- A slice of slices reads so, in a block that is none of the rows'. -/
def RdV (w : World) (v : Value) (vs : List Value) : Prop :=
  ∃ a cap, v = .slice a vs.length cap ∧ ∀ i, i < vs.length → ∃ b off, a = some ⟨b, off, none⟩ ∧ b < w.heap.size ∧ w.cell? ⟨b, off + i, none⟩ = some (vs.getD i (.slice none 0 0)) ∧ ∀ k, k < vs.length → (vs.getD k (.slice none 0 0)).ownBlock ≠ some b

theorem Try.info33 : (Try.prog.info? 33).map (fun i => (i.zero, i.size, i.bytes)) = some (some (.slice none 0 0), 1, 24) := by kernel_rfl
/-- The shape of a row that came in. -/
theorem GC.shape {w0 : World} {vs : List Value} {ns : Nat → Nat} (c : GC w0 vs ns) {j : Nat} (hj : j < vs.length) : ∃ a cap, vs.getD j (.slice none 0 0) = .slice a (ns j) cap := by
  rcases c.sh j hj with ⟨e1, e2⟩ | ⟨g, cap, e1, _⟩
  · exact ⟨none, 0, by rw [e1, e2]⟩
  · exact ⟨_, cap, e1⟩
theorem row_shape {w : World} {base : Nat} {e : TypeId} {v : Value} {n : Nat} {xs : List Value} (h : w.ownsRow base e 1 v n xs) : ∃ a cap, v = .slice a n cap := by
  rcases h.2 with ⟨e1, e2⟩ | ⟨g, cap, cur, e1, _⟩
  · exact ⟨none, 0, by rw [e1, e2]⟩
  · exact ⟨_, cap, e1⟩

set_option maxHeartbeats 3200000 in
set_option maxRecDepth 100000 in
theorem apart_walk (lv : Value) (vs : List Value) (ns : Nat → Nat) (base : Nat) (w : World) (hV : RdV w lv vs) (hM : Mkd w base vs ns 0 0 w) (hK : vs.length ≤ 5864062014700) (hns : ∀ k, ns k ≤ 140737488355000) (hbase : base ≤ w.heap.size) (hltV : ∀ j b, j < vs.length → (vs.getD j (.slice none 0 0)).ownBlock = some b → b < w.heap.size) :
    Calls Try.prog 17 #[lv] w fun e w' => e = .returned (.bool true) ∧ Fr (fun b => ∃ j, j < vs.length ∧ (vs.getD j (.slice none 0 0)).ownBlock = some b) w w' := by
  obtain ⟨i0, hi0, hz0, hz1, hz2⟩ := info_parts Try.info33
  have HltV := hide hltV
  clear hltV
  obtain ⟨a, cap, rfl, hcell⟩ := hV
  have HC := hide hcell
  have Hns := hide hns
  obtain ⟨K, hKK⟩ : ∃ K, Hid (vs.length = K) := ⟨_, rfl⟩
  rw [unhide hKK] at hK ⊢
  have HM := hide hM
  clear hcell hM hns
  go_enter Try.func17, Try.ntmps17
  go_wp2
  go_loopg [3] K (fun k s wr => ∃ (j : Nat), Hid (j + k = K) ∧ s = .int .i64 (j : Int) ∧ Hid (Mkd w base vs ns j 0 wr))
  case atStart => exact ⟨0, by unfold Hid; omega, rfl, HM⟩
  case round =>
    obtain ⟨j, hj, rfl, hMk⟩ := hrel
    by_cases hlt : j < K
    · obtain ⟨cb, co, rfl, hcb, hc, hfar⟩ := unhide HC j (by rw [unhide hKK]; exact hlt)
      obtain ⟨ar, capr, hvj, _⟩ := (unhide hMk).cell (by rw [unhide hKK]; exact hlt)
      obtain ⟨n, hn⟩ : ∃ n, Hid (ns j = n) := ⟨_, rfl⟩
      rw [unhide hn] at hvj
      have hnb : n ≤ 140737488355000 := by rw [← unhide hn]; exact unhide Hns j
      have HVJ := hide hvj
      have Hfar := hide hfar
      have Hc := hide hc
      have i1 : (0 : Int) ≤ (j : Int) := by omega
      have i2 : (j : Int) < (K : Int) := by omega
      obtain ⟨G, hG⟩ : ∃ G, Hid (G = gk) := ⟨gk, rfl⟩
      clear hc hfar hvj
      go_wp2
      go_loopg [4] n (fun k s wr => ∃ (i : Nat), Hid (i + k = n) ∧ s = .int .i64 (i : Int) ∧ Hid (Mkd w base vs ns j i wr))
      case atStart => exact ⟨0, by unfold Hid; omega, rfl, hMk⟩
      case round =>
        obtain ⟨i, hi, rfl, hMi⟩ := hrel
        have hcr : wr.cell? ⟨cb, co + j, none⟩ = some (.slice ar n capr) := by
          obtain ⟨xss, h1, _, _, _⟩ := (unhide hMi).ex
          have h := h1.fr.cell (a := ⟨cb, co + j, none⟩) hcb (by rintro ⟨k, hk, hb⟩; exact unhide Hfar k hk hb)
          rw [h, unhide Hc, unhide HVJ]
        by_cases hin : i < n
        · obtain ⟨ar', capr', hv', hx⟩ := (unhide hMi).cell (by rw [unhide hKK]; exact hlt)
          obtain ⟨g, z, har, hgb, hz, hf⟩ := hx (by rw [unhide hn]; exact hin)
          have hb := hide ((unhide hMi).step (by rw [unhide hKK]; exact hlt) (by rw [unhide hn]; exact hin) hgb)
          obtain rfl : ar = some ⟨g, 0, none⟩ := by
            rw [unhide HVJ] at hv'
            simp only [Value.slice.injEq] at hv'
            rw [hv'.1, har]
          unfold mrk at hb
          have j1 : (0 : Int) ≤ (i : Int) := by omega
          have j2 : (i : Int) < (n : Int) := by omega
          clear hv' hx har hgb
          go_wp2
          go_roundg (gk - 1)
          case measure => have := unhide hi; omega
          case rel => exact ⟨i + 1, by have := unhide hi; unfold Hid; omega, by go_num, hb⟩
        · have hin' : i = n := by have := unhide hi; omega
          subst hin'
          have HN : Hid (Mkd w base vs ns (j + 1) 0 wr) := by
            have h := unhide hMi
            rw [← unhide hn] at h
            exact h.next
          go_wp2
          go_roundg (G - 1)
          case measure => have := unhide hj; have := unhide hG; omega
          case rel => exact ⟨j + 1, by have := unhide hj; have := unhide hG; unfold Hid; omega, by go_num, HN⟩
    · have hjK : K = j := by have := unhide hj; omega
      have hMK : Mkd w base vs ns vs.length 0 wr := by rw [unhide hKK, hjK]; exact unhide hMk
      obtain ⟨hgc, hgr⟩ := Gr.start hMK (unhide HltV)
      have HGC := hide hgc
      have HGR := hide hgr
      have i2 : ¬ (j : Int) < (K : Int) := by omega
      clear hMK hgc hgr hjK hMk
      go_wp2
      go_loopg [5, 6] K (fun k s5 s6 wr => ∃ (j : Nat) (cur : Nat → Value), Hid (j + k = K) ∧ s6 = .int .i64 (j : Int) ∧ Hid (∀ j', j ≤ j' → cur j' = vs.getD j' (.slice none 0 0)) ∧ Hid (Gr w base vs ns j 0 cur s5 wr))
      case atStart => exact ⟨0, _, by unfold Hid; omega, rfl, fun j' _ => rfl, HGR⟩
      case round =>
        obtain ⟨j, cur, hj, rfl, hcu, hGr⟩ := hrel
        by_cases hlt : j < K
        · obtain ⟨cb, co, rfl, hcb, hc, hfar⟩ := unhide HC j (by rw [unhide hKK]; exact hlt)
          have hjv : j < vs.length := by rw [unhide hKK]; exact hlt
          obtain ⟨ar, capr, hvj⟩ := (unhide HGC).shape hjv
          obtain ⟨n, hn⟩ : ∃ n, Hid (ns j = n) := ⟨_, rfl⟩
          have hnb : n ≤ 140737488355000 := by rw [← unhide hn]; exact unhide Hns j
          have hcu0 := unhide hcu j (Nat.le_refl _)
          rw [hvj] at hcu0
          rw [hvj] at hc
          rw [unhide hn] at hc hcu0
          have Hc := hide hc
          have HCU := hide hcu0
          have Hjv := hide hjv
          have Hfar : Hid (¬ ∃ j, j < vs.length ∧ (vs.getD j (.slice none 0 0)).ownBlock = some cb) := fun ⟨k, hk, hb⟩ => hfar k hk hb
          have hcr : wr.cell? ⟨cb, co + j, none⟩ = some (.slice ar n capr) := ((unhide hGr).fr.cell (a := ⟨cb, co + j, none⟩) hcb (unhide Hfar)).trans hc
          have i1 : (0 : Int) ≤ (j : Int) := by omega
          have i2 : (j : Int) < (K : Int) := by omega
          obtain ⟨G, hG⟩ : ∃ G, Hid (G = gk) := ⟨gk, rfl⟩
          clear hc hfar hvj hcu0 hjv
          go_wp2
          clear hcr
          go_loopg [7, 8] 64 (fun k s7 s8 wr => ∃ (i : Nat) (cur : Nat → Value), Hid (i + k = 64) ∧ i ≤ 64 ∧ s8 = .int .i64 (i : Int) ∧ Hid (cur j = s7 ∧ ∀ j', j + 1 ≤ j' → cur j' = vs.getD j' (.slice none 0 0)) ∧ Hid (Gr w base vs ns j i cur u5 wr))
          case atStart => exact ⟨0, cur, by unfold Hid; omega, by omega, rfl, ⟨unhide HCU, fun j' h => unhide hcu j' (by omega)⟩, hGr⟩
          case round =>
            obtain ⟨i, cur, hi, hi64, rfl, hcu7, hGi⟩ := hrel
            have hcr : wr.cell? ⟨cb, co + j, none⟩ = some (.slice ar n capr) := ((unhide hGi).fr.cell (a := ⟨cb, co + j, none⟩) hcb (unhide Hfar)).trans (unhide Hc)
            by_cases hin : i < 64
            · have j2 : (i : Int) < 64 := by omega
              obtain ⟨z, hz⟩ : ∃ z, IntKind.u8.wrap (37 * ((j : Int) + 1) + (n : Int) + (i : Int)) = z := ⟨_, rfl⟩
              have hzm : Hid (z = mrk j (n + i)) := by rw [Hid, ← hz, IntKind.wrap_u8]; unfold mrk; omega
              have hown := (unhide hGi).own j (unhide Hjv)
              rw [gln_at, (unhide hcu7).1, unhide hn] at hown
              have HO : Hid (wr.ownsRow base 5 1 u7 (mrks j (n + i)).length ((mrks j (n + i)).map By)) := by rw [Hid, mrks_length]; exact hown
              have hbs : Hid (base ≤ wr.heap.size) := Nat.le_trans hbase (unhide hGi).fr.size
              have e1 : IntKind.i64.wrap ((j : Int) + 1) = (j : Int) + 1 := by rw [IntKind.wrap_i64]; omega
              have e2 : IntKind.i64.wrap (37 * ((j : Int) + 1)) = 37 * ((j : Int) + 1) := by rw [IntKind.wrap_i64]; omega
              have e3 : IntKind.i64.wrap (37 * ((j : Int) + 1) + (n : Int)) = 37 * ((j : Int) + 1) + (n : Int) := by rw [IntKind.wrap_i64]; omega
              have e4 : IntKind.i64.wrap (37 * ((j : Int) + 1) + (n : Int) + (i : Int)) = 37 * ((j : Int) + 1) + (n : Int) + (i : Int) := by rw [IntKind.wrap_i64]; omega
              clear hown
              go_wp2_with (first | (at_builtin; refine wpList_append_keep rfl _ _ rfl base u7 (mrks j (n + i)) rfl ((unhide HO).alloc _) ⟨wr.heap.size, 0, none⟩ 1 z rfl (cell_one_new _ _ _) (by rw [mrks_length]; omega) (by have := unhide hbs; simp; omega) ?_))
              intro v' w2 hown' hgrow hat hRd
              have HN : Hid (Gr w base vs ns j (i + 1) (updV cur j v') u5 w2) := hide (by
                refine (unhide hGi).step (unhide HGC) (unhide Hjv) (o := _) ?_ (by rw [(unhide hcu7).1]; exact hgrow) (by rw [(unhide hcu7).1]; simpa using hat) (by rw [(unhide hcu7).1, unhide hn]; exact hRd)
                rw [unhide hn, ← Nat.add_assoc, mrks_succ, List.map_append]
                rw [mrks_length, unhide hzm] at hown'
                exact hown')
              clear hown' hgrow hat hRd
              go_wp2
              go_roundg (gk - 1)
              case measure => have := unhide hi; omega
              case rel => exact ⟨i + 1, updV cur j v', by have := unhide hi; unfold Hid; omega, by omega, by go_num, ⟨updV_at _ _ _, fun j' h => by rw [updV_ne _ _ (by omega)]; exact (unhide hcu7).2 j' h⟩, HN⟩
            · obtain rfl : i = 64 := by omega
              have j2 : ¬ ((64 : Nat) : Int) < 64 := by omega
              obtain ⟨a7, c7, h7⟩ := row_shape ((unhide hGi).own j (unhide Hjv))
              rw [gln_at, unhide hn, (unhide hcu7).1] at h7
              subst h7
              have HO := hide (unhide hGi).gown
              clear hcr
              go_wp2_with (first | (at_builtin; refine wpList_append_own_at _ rfl _ _ 42 rfl w.heap.size 33 i0 (.slice none 0 0) 1 24 Try.underlying42 hi0 hz0 hz1 hz2 rfl (by decide) _ _ _ rfl ((unhide HO).alloc _) ⟨wr.heap.size, 0, none⟩ 1 1 [.slice a7 (n + 64) c7] rfl rfl (cell_one_new _ _ _) (by simp [Value.oneCell']) (by unfold maxLen; omega) (by omega) (by have := (unhide hGi).fr.size; simp; omega) ?_))
              intro v' w2 hown' hgrow hnil hat
              have HN : Hid (Gr w base vs ns (j + 1) 0 cur v' w2) := hide ((unhide hGi).push (unhide HGC) (o := _) (by rw [(unhide hcu7).1]; exact hown') hgrow (by simpa using hat))
              clear hown' hgrow hnil hat
              go_wp2
              go_roundg (G - 1)
              case measure => have := unhide hj; have := unhide hG; omega
              case rel => exact ⟨j + 1, cur, by have := unhide hj; have := unhide hG; unfold Hid; omega, by go_num, (unhide hcu7).2, HN⟩
        · have hjK : K = j := by have := unhide hj; omega
          have hGK : Hid (Gr w base vs ns K 0 cur u5 wr) := by rw [hjK]; exact hGr
          have i2 : ¬ (j : Int) < (K : Int) := by omega
          obtain ⟨Y, hY⟩ : ∃ Y, Hid (Y = wr) := ⟨_, rfl⟩
          rw [← unhide hY] at hGK
          clear hjK hGr hcu
          go_wp2
          go_loopg [9] K (fun k s9 wq => ∃ (j : Nat), Hid (j + k = K) ∧ s9 = .int .i64 (j : Int) ∧ wq = Y)
          case atStart => exact ⟨0, by unfold Hid; omega, rfl, (unhide hY).symm⟩
          case round =>
            obtain ⟨j, hj, rfl, hwq⟩ := hrel
            have hwq := hwq.symm
            subst hwq
            by_cases hlt : j < K
            · obtain ⟨cb, co, rfl, hcb, hc, hfar⟩ := unhide HC j (by rw [unhide hKK]; exact hlt)
              have hjv : j < vs.length := by rw [unhide hKK]; exact hlt
              obtain ⟨ar, capr, hvj⟩ := (unhide HGC).shape hjv
              obtain ⟨n, hn⟩ : ∃ n, Hid (ns j = n) := ⟨_, rfl⟩
              have hnb : n ≤ 140737488355000 := by rw [← unhide hn]; exact unhide Hns j
              have hold := (unhide hGK).old j hjv
              rw [hvj, unhide hn] at hc hold
              have hcr : Y.cell? ⟨cb, co + j, none⟩ = some (.slice ar n capr) := ((unhide hGK).fr.cell (a := ⟨cb, co + j, none⟩) hcb (fun ⟨k, hk, hb⟩ => hfar k hk hb)).trans hc
              have hcj := (unhide hGK).own j hjv
              have hgl : gln ns K 0 j = n + 64 := by unfold gln; rw [if_pos hlt, unhide hn]
              rw [hgl] at hcj
              obtain ⟨a7, c7, h7⟩ := row_shape hcj
              have hrc := Rd.of_own (bs := mrks j (n + 64)) (by rw [mrks_length]; exact hcj)
              rw [h7] at hrc
              have hgs := (unhide hGK).gown
              obtain ⟨gb, gcap, hu5, hgc0⟩ : ∃ gb gcap, u5 = .slice (some ⟨gb, 0, none⟩) K gcap ∧ Y.cell? ⟨gb, j, none⟩ = some (.slice a7 (n + 64) c7) := by
                rcases hgs.2 with ⟨e1, e2⟩ | ⟨gb, gcap, cu, e1, _⟩
                · omega
                · refine ⟨gb, gcap, e1, ?_⟩
                  have := hgs.cells (g := gb) (by rw [e1]; rfl) j (cur j) (by rw [List.getElem?_map, List.getElem?_range hlt]; rfl)
                  rw [addr_add0, h7] at this
                  exact this
              subst hu5
              have i1 : (0 : Int) ≤ (j : Int) := by omega
              have i2 : (j : Int) < (K : Int) := by omega
              obtain ⟨G, hG⟩ : ∃ G, Hid (G = gk) := ⟨gk, rfl⟩
              have HOld := hide hold
              have HRc := hide hrc
              clear hc hfar hvj hold hcj hgl h7 hrc hgs hjv
              go_wp2
              go_loopg [10] (n + 64) (fun k s10 wq => ∃ (i : Nat), Hid (i + k = n + 64) ∧ s10 = .int .i64 (i : Int) ∧ wq = Y)
              case atStart => exact ⟨0, by unfold Hid; omega, rfl, rfl⟩
              case round =>
                obtain ⟨i, hi, rfl, hwq⟩ := hrel
                have hwq := hwq.symm
                subst hwq
                by_cases hin : i < n + 64
                · obtain ⟨b1, o1, rfl, hb1, hc1⟩ := (unhide HRc).at i (by rw [mrks_length]; exact hin)
                  rw [mrks_getD j (n + 64) i hin] at hc1
                  have j1 : (0 : Int) ≤ (i : Int) := by omega
                  have j2 : (i : Int) < (n : Int) + 64 := by omega
                  obtain ⟨z, hz⟩ : ∃ z, IntKind.u8.wrap (37 * ((j : Int) + 1) + (i : Int)) = z := ⟨_, rfl⟩
                  have hzm : mrk j i = z := by rw [← hz, IntKind.wrap_u8]; rfl
                  have e1 : IntKind.i64.wrap ((j : Int) + 1) = (j : Int) + 1 := by rw [IntKind.wrap_i64]; omega
                  have e2 : IntKind.i64.wrap (37 * ((j : Int) + 1)) = 37 * ((j : Int) + 1) := by rw [IntKind.wrap_i64]; omega
                  have e4 : IntKind.i64.wrap (37 * ((j : Int) + 1) + (i : Int)) = 37 * ((j : Int) + 1) + (i : Int) := by rw [IntKind.wrap_i64]; omega
                  have hezz : (z != z) = false := by simp
                  rw [hzm] at hc1
                  by_cases hil : i < n
                  · obtain ⟨b2, o2, rfl, hb2, hc2⟩ := (unhide HOld).at i (by rw [mrks_length]; exact hil)
                    rw [mrks_getD j n i hil, hzm] at hc2
                    have j3 : (i : Int) < (n : Int) := by omega
                    clear hzm
                    go_wp2
                    go_roundg (gk - 1)
                    case measure => have := unhide hi; omega
                    case rel => exact ⟨i + 1, by have := unhide hi; unfold Hid; omega, by go_num, rfl⟩
                  · have j3 : ¬ (i : Int) < (n : Int) := by omega
                    clear hzm
                    go_wp2
                    go_roundg (gk - 1)
                    case measure => have := unhide hi; omega
                    case rel => exact ⟨i + 1, by have := unhide hi; unfold Hid; omega, by go_num, rfl⟩
                · have j2 : ¬ (i : Int) < (n : Int) + 64 := by omega
                  go_wp2
                  go_roundg (G - 1)
                  case measure => have := unhide hj; have := unhide hG; omega
                  case rel => exact ⟨j + 1, by have := unhide hj; have := unhide hG; unfold Hid; omega, by go_num, rfl⟩
            · have i2 : ¬ (j : Int) < (K : Int) := by omega
              go_wp2
              go_ret
              exact ⟨rfl, by have h := (unhide hGK).fr; rw [unhide hKK] at h; exact h⟩
end Go.Proofs.Ytaldacjeeccbhaa
