/-
  Delete of a field that is there.
-/
import Derived.Test.YtkpngfahnpidkaaRRec
namespace Go.Proofs.Ytkpngfahnpidkaa
open Go.RowKit
set_option linter.unusedVariables false
set_option linter.unusedSimpArgs false

set_option maxRecDepth 100000 in
set_option maxHeartbeats 3200000 in
theorem del_some {w : World} {h : Nat} {bud sp : Int} {ov : Value} {os : List OD} (H : Hp w h bud sp ov os) (kk n : Int) {o : OD} (hm : nm os kk n = some o) (hk : o.k = 7) (key : Int) {i : Nat} (hi : fx o.keys key = some i) (hlen : o.its.length = o.keys.length) :
    Calls Try.prog 20 #[.pointer (some ⟨h, 0, none⟩), .agg #[.int .i64 kk, .int .i64 n], .int .i64 key] w fun e w' => e = .returned (.int .i64 0) ∧ ∃ v1 v2, Now w h bud sp ov os w' sp (os.set n.toNat { o with kv := v1, keys := o.keys.eraseIdx i, iv := v2, its := o.its.eraseIdx i }) := by
  have hB : Below w.heap.size w (w.alloc (.cells #[.int .i64 kk, .int .i64 n] 33)) := (Below.refl _ _).alloc (Nat.le_refl _) _
  have HC := field_any (H.below hB) kk n hm hk key
  rw [hi] at HC
  unfold fieldV at HC
  have HC := hide HC
  have HB := hide hB
  obtain ⟨b0, b1⟩ := two_new w (.int .i64 kk) (.int .i64 n) 33
  have hl := H.hlt
  have HH := hide H
  have hil := fx_lt hi
  have HK := hide (And.intro (nm_some hm).2.1 (And.intro hk hlen))
  clear H hB hm hk hi hlen
  go_enter Try.func20, Try.ntmps20
  go_wp2_with fail
  refine (unhide HC).mono ?_
  rintro e1 w1 ⟨rfl, hb1⟩
  have hb2 := (unhide HB).trans (hb1.mono (unhide HB).size)
  obtain ⟨ho, hk, hlen⟩ := unhide HK
  have H1 := (unhide HH).below hb2
  have hok := H1.ok _ _ ho
  obtain ⟨c0, c1⟩ := rec_cells hok hk
  obtain ⟨m, em⟩ : ∃ m, o.keys.length = m + 1 := ⟨o.keys.length - 1, by omega⟩
  have hkr := hok.keys
  rw [em] at hkr
  obtain ⟨g, off, cap, ke, kcl, kcm, hgl, _⟩ := hkr.full (by omega)
  rw [ke] at c0 hkr
  have HD1 := hide (delK_any hkr (i := i) (by omega) (ones_k _))
  have HBL := hide hb2
  have HH1 := hide H1
  have HO := hide ho
  have HK7 := hide hk
  have KE := hide ke
  have EM := hide em
  have HLEN := hide hlen
  have hbl : o.b < w1.heap.size := hok.lt _ (.inl rfl)
  have him : i ≤ m := by omega
  have HIL := hide hil
  unfold maxLen at kcm
  have ib : (i : Int) + 1 < 9223372036854775808 := by omega
  have ib0 : (0 : Int) ≤ (i : Int) := by omega
  clear hkr hok ke hb1 hb2 ho hk H1 c1 hlen em hil
  go_wp2_with fail
  refine (unhide HD1).mono ?_
  rintro e2 w3 ⟨rfl, hr3, hf3, hz3⟩
  rw [kwo _ _ (by rw [unhide EM]; omega)] at hr3
  have el : (o.keys.eraseIdx i).length = m := by rw [List.length_eraseIdx_of_lt (by rw [unhide EM]; omega), unhide EM]; rfl
  obtain ⟨s1, s2, s3, s4, s5⟩ := (unhide HH1).setKv (unhide HO) (unhide HK7) (hf3.mono (fun k _ e => by rw [unhide KE, e]; rfl)) (v := .slice (some ⟨g, off, none⟩) m cap) (l := o.keys.eraseIdx i) (by rw [el]; exact hr3) (.inl (by rw [unhide KE]; rfl))
  rw [unhide KE] at s1
  have hn : n.toNat < os.length := (List.getElem?_eq_some_iff.1 (unhide HO)).1
  have ho4 : (os.set n.toNat { o with kv := .slice (some ⟨g, off, none⟩) m cap, keys := o.keys.eraseIdx i })[n.toNat]? = some { o with kv := .slice (some ⟨g, off, none⟩) m cap, keys := o.keys.eraseIdx i } := by rw [List.getElem?_set_self hn]
  have hok4 := s3.ok _ _ ho4
  obtain ⟨_, c14⟩ := rec_cells hok4 (unhide HK7)
  have hir : Ro (w3.setCell ⟨o.b, 0, none⟩ (.slice (some ⟨g, off, none⟩) m cap)) 2 o.iv (m + 1) (flat o.its) := by
    have := hok4.items
    show Ro _ 2 o.iv (m + 1) (flat o.its)
    rw [← unhide EM, ← unhide HLEN]
    exact this
  obtain ⟨g2, off2, cap2, ie, icl, icm, hgl2, _⟩ := hir.full (by omega)
  have IE := hide ie
  have c14' : (w3.setCell ⟨o.b, 0, none⟩ (.slice (some ⟨g, off, none⟩) m cap)).cell? ⟨o.b, 1, none⟩ = some (.slice (some ⟨g2, off2, none⟩) (m + 1) cap2) := by rw [← ie]; exact c14
  rw [ie] at hir
  have HD2 := hide (delV_any hir (i := i) him (ones_flat _))
  have HN4 : Hid (Now w1 h bud sp ov os (w3.setCell ⟨o.b, 0, none⟩ (.slice (some ⟨g, off, none⟩) m cap)) sp (os.set n.toNat { o with kv := .slice (some ⟨g, off, none⟩) m cap, keys := o.keys.eraseIdx i })) := ⟨ov, s3, s4, s5⟩
  have hb4 : o.b < w3.heap.size := World.block_lt_of_cell? _ _ s1
  have hb4' : o.b < (w3.setCell ⟨o.b, 0, none⟩ (.slice (some ⟨g, off, none⟩) m cap)).heap.size := World.block_lt_of_cell? _ _ c14'
  have HO4 := hide ho4
  clear hr3 hf3 hz3 s3 s4 s5 ho4 hok4 c14 hir icl icm hn c0 hgl2 ie
  go_wp2_with fail
  refine (unhide HD2).mono ?_
  rintro e3 w5 ⟨rfl, hr5, hf5, hz5⟩
  rw [fwo _ _ (by rw [unhide HLEN, unhide EM]; omega)] at hr5
  have el2 : (o.its.eraseIdx i).length = m := by rw [List.length_eraseIdx_of_lt (by rw [unhide HLEN, unhide EM]; omega), unhide HLEN, unhide EM]; rfl
  have HSET : ∀ ov1, Hp (w3.setCell ⟨o.b, 0, none⟩ (.slice (some ⟨g, off, none⟩) m cap)) h bud sp ov1 (os.set n.toNat { o with kv := .slice (some ⟨g, off, none⟩) m cap, keys := o.keys.eraseIdx i }) → w5.cell? ⟨o.b, 1, none⟩ = some (.slice (some ⟨g2, off2, none⟩) (m + 1) cap2) ∧ w5.frozen? ⟨o.b, 1, none⟩ = false ∧
      Now (w3.setCell ⟨o.b, 0, none⟩ (.slice (some ⟨g, off, none⟩) m cap)) h bud sp ov1 (os.set n.toNat { o with kv := .slice (some ⟨g, off, none⟩) m cap, keys := o.keys.eraseIdx i }) (w5.setCell ⟨o.b, 1, none⟩ (.slice (some ⟨g2, off2, none⟩) m cap2)) sp (os.set n.toNat { o with kv := .slice (some ⟨g, off, none⟩) m cap, keys := o.keys.eraseIdx i, iv := .slice (some ⟨g2, off2, none⟩) m cap2, its := o.its.eraseIdx i }) := fun ov1 H4 => by
    have ec : ({ o with kv := .slice (some ⟨g, off, none⟩) m cap, keys := o.keys.eraseIdx i } : OD).ci = 1 := by unfold OD.ci; rw [show ({ o with kv := .slice (some ⟨g, off, none⟩) m cap, keys := o.keys.eraseIdx i } : OD).k = 7 from unhide HK7]; rfl
    obtain ⟨t1, t2, t3, t4, t5⟩ := H4.setIv (unhide HO4) (hf5.mono (fun k _ e => by show o.iv.ownBlock = some k; rw [unhide IE, e]; rfl)) (v := .slice (some ⟨g2, off2, none⟩) m cap2) (l := o.its.eraseIdx i) (by rw [el2]; exact hr5) (.inl (by show _ = o.iv.ownBlock; rw [unhide IE]; rfl))
    rw [ec] at t1 t2 t3 t4
    rw [List.set_set] at t3 t5
    refine ⟨by rw [t1]; exact congrArg some (unhide IE), t2, ov1, t3, t4, t5⟩
  obtain ⟨ovx, Hx, _⟩ := unhide HN4
  obtain ⟨y1, y2, _⟩ := HSET ovx Hx
  have HFIN := hide ((unhide HN4).trans (fun ov1 H4 => (HSET ov1 H4).2.2))
  have hb5 : o.b < w5.heap.size := World.block_lt_of_cell? _ _ y1
  clear hr5 hf5 hz5 HSET Hx
  go_wp2_with fail
  go_ret
  exact ⟨rfl, _, _, Now.after (unhide HBL) (unhide HFIN)⟩
end Go.Proofs.Ytkpngfahnpidkaa
