/-
  ListInstr holds.
-/
import Derived.Test.YtpceokegcjombaaDoorLent
import Derived.Test.YtpceokegcjombaaDoorKP
import Derived.Test.YtpceokegcjombaaDoorIns
namespace Go.Proofs.YtpceokegcjombaaDoor
open Go.RowKit
set_option linter.unusedVariables false
set_option linter.unusedSimpArgs false
/-- The two parts of what Instr answers. -/
def inT : Option (List UInt8) → ByteArray
  | none => ⟨#[]⟩
  | some r => ⟨r.toArray⟩
theorem inV_eq (o : Option (List UInt8)) : inV o = .tuple #[.string (inT o), .bool o.isSome] := by cases o <;> rfl
theorem eql4 (b : Bool) (W : World) : (binOp .eql 4 (.bool b) (.bool b)).run Tryd.prog W = .ok (.bool true) W := by cases b <;> kernel_rfl
set_option maxRecDepth 100000 in
set_option maxHeartbeats 4000000 in
theorem listInstrLaw {w : World} {v : Value} {p : Pg} (op a : Int) (h : PgV w v p) (hN : p.funcs.length ≤ 1048576) (hC : p.consts.length ≤ 1048576) (hBD : ∀ (i : Nat) (f : Fc), p.funcs[i]? = some f → f.code.length ≤ 1048576 ∧ f.hs.length ≤ 1048576) (ha : I64 a) (hns : ∀ s ∈ p.funcs.map (·.name), s.size ≤ 1048576) (hT : T10 w) :
    Calls Tryd.prog 3 #[v, .agg #[.int .i64 op, .int .i64 a]] w fun e w' => e = .returned (.bool true) ∧ Below w.heap.size w w' := by
  have HPV := hide h
  have HBD := hide hBD
  obtain ⟨cv, fv, rfl, hc, hf⟩ := h
  obtain ⟨fa, cap, rfl, _, _, hat⟩ := hf.at
  obtain ⟨_, ca, ccap, rfl, _, _, _⟩ := hc
  clear hf hat hBD
  obtain ⟨NC, hNC⟩ : ∃ L, Hid (p.consts.length = L) := ⟨_, rfl⟩
  obtain ⟨NF, hNF⟩ : ∃ L, Hid (p.funcs.length = L) := ⟨_, rfl⟩
  have HI := fun (w : World) (v : Value) (hq : PgN w v (p.funcs.map (·.name))) => rins_any op a hq ha hns
  have HJ := fun (w : World) (v : Value) (hq : PgN w v (p.funcs.map (·.name))) (ht : T10 w) => ins_any op a hq ha hns ht
  rw [inV_eq] at HI HJ
  generalize inT (insT (p.funcs.map (·.name)) op a) = u at HI HJ
  generalize (insT (p.funcs.map (·.name)) op a).isSome = bo at HI HJ
  have HI := hide HI
  have HJ := hide HJ
  have n1 := eql4 bo
  have HT := hide hT
  clear ha hns hT
  obtain ⟨W0, hW0⟩ : ∃ x, Hid (((w.alloc (.cells #[.slice ca NC ccap, .slice fa NF cap] 25)).alloc (.cells #[.int .i64 op, .int .i64 a] 27)) = x) := ⟨_, rfl⟩
  have F0 : Hid (Below (w.heap.size + 2) ((w.alloc (.cells #[.slice ca NC ccap, .slice fa NF cap] 25)).alloc (.cells #[.int .i64 op, .int .i64 a] 27)) W0) := by unfold Hid; rw [unhide hW0]; exact Below.refl _ _
  have HLn := hide (fun (wx : World) (hx : PgV wx (.agg #[.slice ca p.consts.length ccap, .slice fa p.funcs.length cap]) p) => lent_any hx hN hC (unhide HBD))
  rw [unhide hNC] at hC HPV HLn ⊢
  rw [unhide hNF] at hN HPV HLn ⊢
  obtain ⟨p0, p1, i0, i1, hl0, hs0⟩ := boxPI (unhide F0)
  have HL0 := hide hl0
  have HS0 := hide hs0
  clear hl0 hs0 p0 p1 i0 i1
  go_enter Tryd.func3, Tryd.ntmps3
  go_wp2_with fail
  rw [unhide hW0]
  refine (unhide HI _ _ ((unhide HPV).below (unhide HL0) (Nat.le_refl _)).pgn).mono ?_
  rintro e W1 ⟨rfl, hb⟩
  have F1 : Hid (Below (w.heap.size + 2) ((w.alloc (.cells #[.slice ca NC ccap, .slice fa NF cap] 25)).alloc (.cells #[.int .i64 op, .int .i64 a] 27)) W1) := (unhide F0).trans (hb.mono (unhide HS0))
  clear hb
  obtain ⟨p0, p1, i0, i1, hl1, hs1⟩ := boxPI (unhide F1)
  have HL1 := hide hl1
  have HS1 := hide hs1
  clear hl1 hs1
  go_wp2_with fail
  refine (unhide HLn W1 ((unhide HPV).below (unhide HL1) (Nat.le_refl _))).mono ?_
  rintro e w2 ⟨cg, co, qcap, fg, fo, fcap, ys, rfl, hlnt⟩
  clear p0 p1 i0 i1
  obtain ⟨W, hW⟩ : ∃ x, Hid ((w2.alloc (.cells #[.slice (some ⟨cg, co, none⟩) NC qcap, .slice (some ⟨fg, fo, none⟩) NF fcap] 25)) = x) := ⟨_, rfl⟩
  have hbw2 : Below w2.heap.size w2 W := by rw [← unhide hW]; exact (Below.refl _ _).alloc (Nat.le_refl _) _
  obtain ⟨qb0, qb1, _, hq2⟩ := box2 (w := w2) (wr := W) (u := .slice (some ⟨cg, co, none⟩) NC qcap) (v := .slice (some ⟨fg, fo, none⟩) NF fcap) (e := 25) (by rw [← unhide hW]; exact Below.refl _ _)
  have h12 := hlnt.below
  have F2 : Hid (Below (w.heap.size + 2) ((w.alloc (.cells #[.slice ca NC ccap, .slice fa NF cap] 25)).alloc (.cells #[.int .i64 op, .int .i64 a] 27)) w2) := (unhide F1).trans (h12.mono (unhide HS1))
  have FW : Hid (Below (w.heap.size + 2) ((w.alloc (.cells #[.slice ca NC ccap, .slice fa NF cap] 25)).alloc (.cells #[.int .i64 op, .int .i64 a] 27)) W) := (unhide F1).trans ((h12.mono (unhide HS1)).trans (hbw2.mono (by have := h12.size; have := unhide HS1; omega)))
  have HQB := hide (show w2.heap.size < W.heap.size ∧ W.cell? ⟨w2.heap.size, 0, none⟩ = some (.slice (some ⟨cg, co, none⟩) NC qcap) ∧ W.cell? ⟨w2.heap.size, 1, none⟩ = some (.slice (some ⟨fg, fo, none⟩) NF fcap) from ⟨hq2, qb0, qb1⟩)
  have HLt := hide (hlnt.keep hbw2)
  have hqp := (unhide HLt).pgv
  rw [unhide hNC, unhide hNF] at hqp
  have HQP := hide hqp
  clear hqp hlnt hbw2 h12 hq2
  obtain ⟨p0, p1, i0, i1, hlw, hsw⟩ := boxPI (unhide FW)
  have HLW := hide hlw
  have HSW := hide hsw
  clear hlw hsw p0 p1 i0 i1 qb0 qb1
  obtain ⟨p0, p1, i0, i1, hlz, hsz⟩ := boxPI (unhide F2)
  have hsz1 : w.heap.size + 1 < w2.heap.size := by omega
  have hsz0 : w.heap.size < w2.heap.size := by omega
  clear hlz hsz
  go_wp2_with fail
  rw [unhide hW]
  refine (unhide HJ _ _ (unhide HQP).pgn ((unhide HT).below (unhide HLW) (unhide HT).size)).mono ?_
  rintro e W3 ⟨rfl, hb⟩
  have F3 : Hid (Below (w.heap.size + 2) ((w.alloc (.cells #[.slice ca NC ccap, .slice fa NF cap] 25)).alloc (.cells #[.int .i64 op, .int .i64 a] 27)) W3) := (unhide FW).trans (hb.mono (unhide HSW))
  have HB3 := hide hb
  clear p0 p1 i0 i1
  have q0 := Below.heldIn hb (unhide HQB).1 (unhide HQB).2.1
  have q1 := Below.heldIn hb (unhide HQB).1 (unhide HQB).2.2
  clear hb
  obtain ⟨p0, p1, i0, i1, hl3, hs3⟩ := boxPI (unhide F3)
  have HL3 := hide hl3
  clear hl3 hs3
  have hk := keptP_any ((unhide HLt).keep (unhide HB3)) ((unhide HPV).below (unhide HL3) (Nat.le_refl _)) (by rw [unhide hNF]; exact hN) (by rw [unhide hNC]; exact hC) (unhide HBD)
  rw [unhide hNC, unhide hNF] at hk
  have HK := hide hk
  clear hk
  go_wp2_with fail
  refine (unhide HK).mono ?_
  rintro e W4 ⟨rfl, hb⟩
  have F4 : Hid (Below w.heap.size w W4) := (unhide HL3).trans (hb.mono (unhide HL3).size)
  clear hb p0 p1 i0 i1 q0 q1
  go_wp2_with fail
  go_ret
  exact ⟨rfl, unhide F4⟩
end Go.Proofs.YtpceokegcjombaaDoor
