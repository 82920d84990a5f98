/-
  DigestHex.
-/
import Derived.Test.YtlkcjimkgebeiaaHex2
namespace Go.Proofs.Ytlkcjimkgebeiaa
open Go.RowKit

/-- What both calls keep. -/
def KeepS (w : World) (x : List Int) (w' : World) : Prop := Seg w' w.heap.size 0 .u8 x ∧ Below w.heap.size w w' ∧ w.heap.size < w'.heap.size
theorem KeepS.step {w w1 w2 : World} {x : List Int} (h : KeepS w x w1) (b : Below w1.heap.size w1 w2) : KeepS w x w2 :=
  ⟨h.1.keepB (b.block _ h.2.2), h.2.1.trans (b.mono (by have := h.2.2; omega)), by have := h.2.2; have := b.size; omega⟩

set_option maxHeartbeats 800000 in
set_option maxRecDepth 100000 in
theorem hexLaw (x : List Int) (hx : x.length = 32) (hB : BOk x) (w : World) :
    Calls Try.prog 3 #[.agg (Ar .u8 x)] w fun e w' => e = .returned (.bool true) ∧ Below w.heap.size w w' := by
  have hA := hide (hex_any x hx hB)
  have hR := hide (refHex_any x hx hB)
  have HX := hide hx
  have hS0 : KeepS w x (w.alloc (.cells (Ar .u8 x) 22)).drew := ⟨(Seg.fresh w 22 .u8 x).drew, ((Below.refl _ _).alloc (Nat.le_refl _) _).drew, by simp⟩
  have HS := hide hS0
  clear hx hB hS0
  go_enter Try.func3, Try.ntmps3
  go_wp2_with fail
  refine wp_region_held_drew (S := KeepS w x) (by kernel_rfl) (unhide HS) (fun hHeld => ?_)
  refine wpAnyH_take (i := 0) (oi := _) (v := .agg (Ar .u8 x)) rfl (by kernel_rfl) (by kernel_rfl) (by kernel_rfl) (fun _ _ _ h => h) (yieldsIf_load_mid (by rfl) 22 _ rfl w.heap.size 0 rfl (x.map (Value.int .u8)) _ (fun w h => h.1.1) Try.underlying22 rfl (by rw [List.length_map, unhide HX]; exact Try.info22)) (by assumption) ?_
  refine wpAnyH_take (i := 2) (oi := _) (v := .agg (Ar .u8 x)) rfl (by kernel_rfl) (by kernel_rfl) (by kernel_rfl) (fun _ _ _ h => h) (yieldsIf_load_mid (by rfl) 22 _ rfl w.heap.size 0 rfl (x.map (Value.int .u8)) _ (fun w h => h.1.1) Try.underlying22 rfl (by rw [List.length_map, unhide HX]; exact Try.info22)) (by assumption) ?_
  simp only [Act.put, List.setIfInBounds_toArray]
  refine wpAnyH_ready (rs := [1]) (by kernel_rfl) (by simp) ?_
  refine AllReadyH.cons (o := _) rfl (fun K hK => ?_) AllReadyH.nil
  · go_simp
    refine (unhide hA _).mono ?_
    rintro e w1 ⟨rfl, hb1⟩
    have hH1 := hHeld.step hb1
    clear hb1
    go_simp
    refine hK.out _ _ hH1 (fun hHeld1 => ?_)
    clear hK K
    refine wpAnyH_ready (rs := [3]) (by kernel_rfl) (by simp) ?_
    refine AllReadyH.cons (o := _) rfl (fun K hK => ?_) AllReadyH.nil
    go_simp
    refine (unhide hR _).mono ?_
    rintro e w2 ⟨rfl, hb2⟩
    have hH2 := hH1.step hb2
    clear hb2
    go_simp
    refine hK.out _ _ hH2 (fun hHeld3 => ?_)
    clear hK K
    refine wpAnyH_ready (rs := [4]) (by kernel_rfl) (by simp) ?_
    refine AllReadyH.cons (o := _) rfl (fun K hK => ?_) AllReadyH.nil
    go_simp
    refine hK.out _ _ hH2 (fun hHeld4 => ?_)
    clear hK K
    refine wpAnyH_ready (rs := [5]) (by kernel_rfl) (by simp) ?_
    refine AllReadyH.cons (o := _) rfl (fun K hK => ?_) AllReadyH.nil
    go_simp
    refine hK.out _ _ hH2 (fun hHeld5 => ?_)
    clear hK K
    refine wpAnyH_done (by kernel_rfl) ?_ _
    go_wp2
    go_ret
    exact ⟨rfl, hH2.2.1⟩
end Go.Proofs.Ytlkcjimkgebeiaa
