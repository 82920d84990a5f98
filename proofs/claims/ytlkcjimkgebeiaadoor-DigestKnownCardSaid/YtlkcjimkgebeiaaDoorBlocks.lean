/-
  Whole blocks, one behind the other.
-/
import Derived.Test.YtlkcjimkgebeiaaDoorPLaw
namespace Go.Proofs.YtlkcjimkgebeiaaDoor
open Go.RowKit

set_option maxHeartbeats 3200000 in
set_option maxRecDepth 100000 in
theorem blocks_any (w : World) (hK : KT w) : Calls Tryd.prog 18 #[] w fun e w' => e = .returned (.bool true) ∧ Below w.heap.size w w' := by
  obtain ⟨i0, hi0, hz0, hz1, hz2⟩ := info_parts Tryd.info5
  have HK := hide hK
  clear hK
  go_enter Tryd.func18, Tryd.ntmps18
  go_wp2_with fail
  refine (new_any _).mono ?_
  rintro e W ⟨p, rfl, hp, hHs, hb1⟩
  have hp0 : 0 < p := Nat.lt_of_lt_of_le (unhide HK).2 hp
  have hpW : p < W.heap.size := hHs.lt'
  have hPS0 : Hid (PS w W p [] (.slice none 0 0) W) := ⟨⟨_, _, _, _, _, hHs, FD.start, TD.start⟩, World.ownsRow_nil _ _ _ _, hb1, Nat.le_refl _⟩
  clear hHs hb1
  go_wp2
  go_loopg [2, 3] 6 (fun k s2 s3 wr => ∃ (j : Nat) (all : List Int), Hid (j + k = 6) ∧ j ≤ 6 ∧ s3 = .int .i64 (j : Int) ∧ all.length = 64 * j ∧ Hid (BOk all) ∧ Hid (PS w W p all s2 wr))
  case atStart => exact ⟨0, [], by unfold Hid; omega, by omega, rfl, rfl, fun b hb => by simp at hb, hPS0⟩
  case round =>
    obtain ⟨j, all, hj, hj6, rfl, hlen, hBA, hO⟩ := hrel
    by_cases hlt : j < 6
    · have i1 : (j : Int) < 6 := by omega
      obtain ⟨G, hG⟩ : ∃ G, G = gk := ⟨_, rfl⟩
      obtain ⟨X, hX⟩ : ∃ X, Hid (X = wr) := ⟨_, rfl⟩
      go_wp2
      go_loopg [4, 5] 64 (fun k s4 s5 w5 => ∃ (i : Nat), Hid (i + k = 64) ∧ i ≤ 64 ∧ s5 = .int .i64 (i : Int) ∧ Hid (Grows wr s4 (List.replicate i (j : Int)) w5))
      case atStart => exact ⟨0, by unfold Hid; omega, by omega, rfl, ⟨World.ownsRow_nil _ _ _ _, Below.refl _ _⟩⟩
      case round =>
        obtain ⟨i, hi, hi64, rfl, hGr⟩ := hrel
        rw [← unhide hX] at hGr hO
        by_cases hli : i < 64
        · have i2 : (i : Int) < 64 := by omega
          have hown := (unhide hGr).1
          rw [List.length_replicate] at hown
          have HO := hide hown
          have hcv : IntKind.u8.wrap (j : Int) = (j : Int) := by
            have : j = 0 ∨ j = 1 ∨ j = 2 ∨ j = 3 ∨ j = 4 ∨ j = 5 := by omega
            rcases this with h | h | h | h | h | h <;> subst h <;> rfl
          clear hown
          go_wp2_with (first | (at_builtin; refine wpList_append_own_at _ rfl _ _ 22 rfl X.heap.size 5 i0 (.int .u8 0) 1 1 Tryd.underlying22 hi0 hz0 hz1 hz2 rfl (by decide) _ _ _ rfl ((unhide HO).alloc _) ⟨wr.heap.size, 0, none⟩ 1 1 [.int .u8 (j : Int)] rfl rfl (cell_one_new _ _ _) (by simp [Value.oneCell']) (by unfold maxLen; omega) (by omega) (by have := (unhide hGr).2.size; simp; omega) ?_))
          intro v' w1 hown' hgrow hnil hat
          have HN : Hid (Grows X v' (List.replicate (i + 1) (j : Int)) w1) := hide (by
            rw [List.replicate_succ']
            exact (unhide hGr).step hown' (by rw [List.length_replicate]) (by simp) hgrow)
          clear hown' hgrow hnil hat
          go_wp2
          go_roundg (gk - 1)
          case measure => have := unhide hi; omega
          case rel => exact ⟨i + 1, by have := unhide hi; unfold Hid; omega, by omega, by go_num, by rw [← unhide hX]; exact HN⟩
        · obtain rfl : i = 64 := by omega
          have hb8 : BOk (List.replicate 64 (j : Int)) := fun b hb => by
            have := List.eq_of_mem_replicate hb
            omega
          have hl8 : (List.replicate 64 (j : Int)).length = 64 := List.length_replicate
          obtain ⟨C, hC⟩ : ∃ C, List.replicate 64 (j : Int) = C := ⟨_, rfl⟩
          rw [hC] at hb8 hl8 hGr
          have hPr := hide ((unhide hO).below (unhide hGr).2)
          have hX8 : p < X.heap.size := (unhide hO).hp.lt
          have hown4 := hide (unhide hGr).1
          have hap : ∀ b off n c, u4 = .slice (some ⟨b, off, none⟩) n c → b ≠ p := fun b off n c e h => by
            have := ((unhide hown4).lt b (by rw [e]; rfl)).1
            omega
          have hC1 := hide (write_hp p all u4 C wr (unhide hPr).hp (Rd.of_own (unhide hown4)) hap ((unhide HK).below (unhide HK).2 (unhide hPr).bel) hb8 hp0 (by omega) (by omega))
          have Hb8 := hide hb8
          clear hC hO hGr hap hb8
          go_wp2_with fail
          refine (unhide hC1).mono ?_
          rintro e w2 ⟨rfl, hH2, hF2⟩
          have hR2 : Hid (PR w2 u4 C) := .inl (Rd.of_own (own_keepB (unhide hown4) (fun g hg => hF2.block g ((unhide hown4).lt g hg).2 (by have := ((unhide hown4).lt g hg).1; omega))))
          have HOw : Hid (w2.ownsRow W.heap.size 5 1 u2 all.length (all.map By)) := own_keepB (unhide hPr).own (fun g hg => hF2.block g ((unhide hPr).own.lt g hg).2 (by have := ((unhide hPr).own.lt g hg).1; omega))
          have HWs : W.heap.size ≤ w2.heap.size := Nat.le_trans (unhide hPr).fr hF2.size
          have HH2 := hide hH2
          have HF2 := hide hF2
          clear hC1 hH2 hF2 hown4
          go_wp2_with (first | (at_builtin; refine wpList_append_pc rfl _ _ rfl W.heap.size u2 u4 all C rfl rfl (unhide HOw) (unhide hR2) (by omega) HWs ?_))
          intro v3 w3 hown3 hg3
          have HP3 := hide ((unhide hPr).written hp hpW (unhide HH2) (unhide HF2) (by rw [List.length_append, List.map_append, hlen, hl8]; exact hown3) hg3)
          have hlA : (all ++ C).length = 64 * (j + 1) := by rw [List.length_append]; omega
          have hbA : Hid (BOk (all ++ C)) := fun b hb => by
            rcases List.mem_append.1 hb with hb | hb
            · exact unhide hBA b hb
            · exact unhide Hb8 b hb
          clear hown3 hg3 HH2 HF2 HOw hR2 HWs hPr hBA Hb8 hlen
          generalize all ++ C = A at *
          obtain ⟨D, hF⟩ : ∃ D, digF A = D := ⟨_, rfl⟩
          have HF := hide hF
          have HD : Hid (D.length = 32) := by rw [Hid, ← hF]; exact digF_len _
          have e1 := arr_eql D (unhide HD)
          have hC3 := hsum_hp p A w3 (unhide HP3).hp ((unhide HK).below (unhide HK).2 (unhide HP3).bel) hp0 (by omega)
          rw [hF] at hC3
          have hC3 := hide hC3
          clear hF
          go_wp2_with fail
          refine (unhide hC3).mono ?_
          rintro e w4 ⟨rfl, hH4, hF4⟩
          have HP4 := hide ((unhide HP3).summed hp hpW hH4 hF4)
          have hC4 := dsum_any v3 A w4 (Rd.of_own (unhide HP4).own) (unhide hbA) (by omega) ((unhide HK).below (unhide HK).2 (unhide HP4).bel)
          rw [unhide HF] at hC4
          have hC4 := hide hC4
          clear hC3 hH4 hF4 HP3
          go_wp2_with fail
          refine (unhide hC4).mono ?_
          rintro e w5 ⟨rfl, hb5⟩
          have HP5 := hide ((unhide HP4).below hb5)
          have hC5 := hsum_hp p A w5 (unhide HP5).hp ((unhide HK).below (unhide HK).2 (unhide HP5).bel) hp0 (by omega)
          rw [unhide HF] at hC5
          have hC5 := hide hC5
          clear hC4 hb5 HP4
          go_wp2_with fail
          refine (unhide hC5).mono ?_
          rintro e w6 ⟨rfl, hH6, hF6⟩
          have HP6 := hide ((unhide HP5).summed hp hpW hH6 hF6)
          have hC6 := dsum_any v3 A w6 (Rd.of_own (unhide HP6).own) (unhide hbA) (by omega) ((unhide HK).below (unhide HK).2 (unhide HP6).bel)
          rw [unhide HF] at hC6
          have hC6 := hide hC6
          clear hC5 hH6 hF6 HP5
          go_wp2_with fail
          refine (unhide hC6).mono ?_
          rintro e w7 ⟨rfl, hb7⟩
          have HP7 := hide ((unhide HP6).below hb7)
          clear hC6 hb7 HP6
          go_wp2
          go_roundg (G - 1)
          case measure => have := unhide hj; omega
          case rel => exact ⟨j + 1, A, by have := unhide hj; unfold Hid; omega, by omega, by go_num, hlA, hbA, HP7⟩
    · have i1 : ¬ (j : Int) < 6 := by omega
      go_wp2
      go_ret
      exact ⟨rfl, (unhide hO).bel⟩
end Go.Proofs.YtlkcjimkgebeiaaDoor
