/-
  The line of an instruction: the document's, and the program's.
-/
import Derived.Test.YtpceokegcjombaaDoorWord
import Derived.Test.YtpceokegcjombaaDoorFind0
namespace Go.Proofs.YtpceokegcjombaaDoor
open Go.RowKit
set_option linter.unusedVariables false
set_option linter.unusedSimpArgs false
/-- The line of an instruction, if it has one. -/
def insT (ns : List ByteArray) (op a : Int) : Option (List UInt8) :=
  if okB op a = false then none
  else if kdI op = 0 then some (nmI op).data.toList
  else if kdI op = 2 then some ((nmI op).data.toList ++ [32] ++ lab a)
  else if kdI op = 5 then (ns[a.toNat]?).map (fun s => (nmI op).data.toList ++ [32] ++ s.data.toList)
  else some ((nmI op).data.toList ++ [32] ++ Lib.itoa a)
/-- What Instr answers. -/
def inV : Option (List UInt8) → Value
  | none => .tuple #[.string ⟨#[]⟩, .bool false]
  | some r => .tuple #[.string ⟨r.toArray⟩, .bool true]
theorem nmI_size (op : Int) : (nmI op).size ≤ 16 := by
  unfold nmI
  split
  · unfold nm
    by_cases h : op.toNat < 67
    · have key : ∀ k : Fin 67, (nmL.getD k.val ByteArray.empty).size ≤ 16 := by decide +kernel
      exact key ⟨_, h⟩
    · have : nmL.length = 67 := by decide +kernel
      rw [List.getD_eq_getElem?_getD, List.getElem?_eq_none (by omega)]
      decide
  · decide
theorem okB_kind {op a : Int} (h : okB op a = true) : isOp op = true ∧ rightB (kd op.toNat) a = true ∧ kdI op = (kd op.toNat : Int) := by
  unfold okB at h
  rw [Bool.and_eq_true] at h
  exact ⟨h.1, h.2, by rw [kdI, if_pos h.1]⟩
theorem okB_place {op a : Int} (h : okB op a = true) (hk : kdI op = 5) : 0 ≤ a ∧ a ≤ 127 := by
  obtain ⟨_, h2, h3⟩ := okB_kind h
  rw [hk] at h3
  have : kd op.toNat = 5 := by omega
  rw [this] at h2
  have h4 : lo 5 ≤ a ∧ a ≤ hi 5 := by simpa [rightB] using h2
  have e1 : lo 5 = 0 := rfl
  have e2 : hi 5 = 127 := rfl
  rw [e1, e2] at h4
  exact h4
theorem app3 (x y : ByteArray) : x ++ ⟨#[32]⟩ ++ y = ⟨(x.data.toList ++ [32] ++ y.data.toList).toArray⟩ := by
  obtain ⟨x⟩ := x
  obtain ⟨y⟩ := y
  rw [show (⟨#[32]⟩ : ByteArray) = ⟨[32].toArray⟩ from rfl]
  apply ByteArray.ext
  simp [ByteArray.data_append]
theorem ba_self (s : ByteArray) : (⟨s.data.toList.toArray⟩ : ByteArray) = s := by cases s; rfl
/-- Two boxes of two cells. -/
theorem boxPI {w wr : World} {u v x y : Value} {e f : TypeId} (h : Below (w.heap.size + 2) ((w.alloc (.cells #[u, v] e)).alloc (.cells #[x, y] f)) wr) :
    wr.cell? ⟨w.heap.size, 0, none⟩ = some u ∧ wr.cell? ⟨w.heap.size, 1, none⟩ = some v ∧ wr.cell? ⟨w.heap.size + 1, 0, none⟩ = some x ∧ wr.cell? ⟨w.heap.size + 1, 1, none⟩ = some y ∧ Below w.heap.size w wr ∧ w.heap.size + 2 ≤ wr.heap.size := by
  have hs := h.size
  simp only [World.size_alloc] at hs
  have n0 := new_cells w #[u, v] e 0 u rfl
  have n1 := new_cells w #[u, v] e 1 v rfl
  have m0 := new_cells (w.alloc (.cells #[u, v] e)) #[x, y] f 0 x rfl
  have m1 := new_cells (w.alloc (.cells #[u, v] e)) #[x, y] f 1 y rfl
  rw [Go.WideShapes.add_plain] at n0 n1 m0 m1
  simp only [World.size_alloc] at m0 m1
  have k := fun (o : Nat) => ((Below.refl (w.heap.size + 1) (w.alloc (.cells #[u, v] e))).alloc (by simp) (.cells #[x, y] f)).cell (p := ⟨w.heap.size, o, none⟩) (by simp)
  refine ⟨(h.cell (p := ⟨w.heap.size, 0, none⟩) (by simp)).trans ((k 0).trans n0), (h.cell (p := ⟨w.heap.size, 1, none⟩) (by simp)).trans ((k 1).trans n1), (h.cell (p := ⟨w.heap.size + 1, 0, none⟩) (by simp)).trans m0, (h.cell (p := ⟨w.heap.size + 1, 1, none⟩) (by simp)).trans m1, (((Below.refl _ w).alloc (Nat.le_refl _) _).alloc (by simp) _).trans (h.mono (by omega)), by omega⟩
set_option maxHeartbeats 4000000 in
set_option maxRecDepth 100000 in
theorem rins_any {w : World} {v : Value} {ns : List ByteArray} (op a : Int) (h : PgN w v ns) (ha : I64 a) (hns : ∀ s ∈ ns, s.size ≤ 1048576) :
    Calls Tryd.prog 4 #[v, .agg #[.int .i64 op, .int .i64 a]] w fun e w' => e = .returned (inV (insT ns op a)) ∧ Below w.heap.size w w' := by
  obtain ⟨ca, cn, ccap, fa, cap, rfl, hat⟩ := h
  have HAT := hide hat
  clear hat
  have HNS := hide hns
  clear hns
  have HCk := hide (fun w => dCheck_any w op a ha)
  have HNm := hide (fun w => dName_any w op)
  have HOp := hide (fun w => dOperand_any w op)
  have HI := hide ha
  have HI2 : IntKind.i64.wrap a = a := by unfold I64 at ha; rw [IntKind.wrap_i64]; omega
  clear ha
  obtain ⟨NL, hNL⟩ : ∃ L, Hid (ns.length = L) := ⟨_, rfl⟩
  rw [unhide hNL]
  obtain ⟨N, hN⟩ : ∃ N, Hid (nmI op = N) := ⟨_, rfl⟩
  have hNz : N.size ≤ 16 := by rw [← unhide hN]; exact nmI_size op
  obtain ⟨K, hK⟩ : ∃ K, Hid (kdI op = K) := ⟨_, rfl⟩
  obtain ⟨I, hI⟩ : ∃ I, Hid (isOp op = I) := ⟨_, rfl⟩
  rw [unhide hN, unhide hI] at HNm
  rw [unhide hK, unhide hI] at HOp
  obtain ⟨R, hR⟩ : ∃ R, Hid (inV (insT ns op a) = R) := ⟨_, rfl⟩
  rw [unhide hR]
  cases hok : okB op a
  case false =>
    have her : erN op a = 7 := by rw [erN, hok]; rfl
    rw [her] at HCk
    have HR : Hid (R = .tuple #[.string ⟨#[]⟩, .bool false]) := by rw [← unhide hR]; unfold insT; rw [if_pos hok]; rfl
    clear hok her
    go_enter Tryd.func4, Tryd.ntmps4
    go_wp2_with fail
    obtain ⟨W0, hW0⟩ : ∃ x, Hid (((w.alloc (.cells #[.slice ca cn ccap, .slice fa NL cap] 25)).alloc (.cells #[.int .i64 op, .int .i64 a] 27)) = x) := ⟨_, rfl⟩
    rw [unhide hW0]
    refine (unhide HCk _).mono ?_
    rintro e W1 ⟨rfl, hb⟩
    have F1 : Hid (Below (w.heap.size + 2) ((w.alloc (.cells #[.slice ca cn ccap, .slice fa NL cap] 25)).alloc (.cells #[.int .i64 op, .int .i64 a] 27)) W1) := by
      unfold Hid; rw [unhide hW0]; exact hb.mono (by rw [← unhide hW0]; simp)
    clear hb
    obtain ⟨p0, p1, i0, i1, hlow, hsz⟩ := boxPI (unhide F1)
    have HLOW := hide hlow
    have HSZ := hide hsz
    clear hlow hsz
    clear p0 p1 i0 i1
    go_wp2_with fail
    go_ret2
    exact ⟨by rw [unhide HR]; rfl, unhide HLOW⟩
  case true =>
    have her : erN op a = 0 := by rw [erN, hok]; rfl
    rw [her] at HCk
    have HR : Hid (R = inV (if K = 0 then some N.data.toList else if K = 2 then some (N.data.toList ++ [32] ++ lab a) else if K = 5 then (ns[a.toNat]?).map (fun s => N.data.toList ++ [32] ++ s.data.toList) else some (N.data.toList ++ [32] ++ Lib.itoa a))) := by
      unfold Hid; rw [← unhide hR]; unfold insT; rw [if_neg (by rw [hok]; simp), unhide hN, unhide hK]
    have HPL : Hid (K = 5 → 0 ≤ a ∧ a ≤ 127) := fun h => okB_place hok ((unhide hK).trans h)
    clear hok her
    go_enter Tryd.func4, Tryd.ntmps4
    go_wp2_with fail
    obtain ⟨W0, hW0⟩ : ∃ x, Hid (((w.alloc (.cells #[.slice ca cn ccap, .slice fa NL cap] 25)).alloc (.cells #[.int .i64 op, .int .i64 a] 27)) = x) := ⟨_, rfl⟩
    rw [unhide hW0]
    refine (unhide HCk _).mono ?_
    rintro e W1 ⟨rfl, hb⟩
    have F1 : Hid (Below (w.heap.size + 2) ((w.alloc (.cells #[.slice ca cn ccap, .slice fa NL cap] 25)).alloc (.cells #[.int .i64 op, .int .i64 a] 27)) W1) := by
      unfold Hid; rw [unhide hW0]; exact hb.mono (by rw [← unhide hW0]; simp)
    clear hb
    obtain ⟨p0, p1, i0, i1, hlow, hsz⟩ := boxPI (unhide F1)
    have HLOW := hide hlow
    have HSZ := hide hsz
    clear hlow hsz
    go_wp2_with fail
    refine (unhide HNm _).mono ?_
    rintro e W2 ⟨rfl, hX⟩
    obtain rfl := hX.symm
    clear hX
    go_wp2_with fail
    refine (unhide HOp _).mono ?_
    rintro e W3 ⟨rfl, hb⟩
    have F3 : Hid (Below (w.heap.size + 2) ((w.alloc (.cells #[.slice ca cn ccap, .slice fa NL cap] 25)).alloc (.cells #[.int .i64 op, .int .i64 a] 27)) W3) := (unhide F1).trans (hb.mono (unhide HSZ))
    clear hb p0 p1 i0 i1 HLOW HSZ
    obtain ⟨p0, p1, i0, i1, hlow, hsz⟩ := boxPI (unhide F3)
    have HLOW := hide hlow
    have HSZ := hide hsz
    clear hlow hsz
    by_cases k0 : K = 0
    · have HR0 : Hid (R = .tuple #[.string N, .bool true]) := by unfold Hid; rw [unhide HR, if_pos k0]; exact congrArg (fun x => Value.tuple #[.string x, .bool true]) (ba_self N)
      subst k0
      go_wp2_with fail
      go_ret2
      exact ⟨by rw [unhide HR0]; rfl, unhide HLOW⟩
    have e0 : (K == 0) = false := by simpa using k0
    have HRa : Hid (R = inV (if K = 2 then some (N.data.toList ++ [32] ++ lab a) else if K = 5 then (ns[a.toNat]?).map (fun s => N.data.toList ++ [32] ++ s.data.toList) else some (N.data.toList ++ [32] ++ Lib.itoa a))) := by
      unfold Hid; rw [unhide HR, if_neg k0]
    clear HR k0
    by_cases k2 : K = 2
    · have HR0 : Hid (R = inV (some (N.data.toList ++ [32] ++ lab a))) := by unfold Hid; rw [unhide HRa, if_pos k2]
      subst k2
      have hll : (lab a).length ≤ 22 := by have := itoa_len a (unhide HI); unfold lab; rw [List.length_cons]; omega
      have HL := hide (rlabel_any a (unhide HI))
      obtain ⟨B, hB⟩ : ∃ B : ByteArray, Hid (B = ⟨(lab a).toArray⟩) := ⟨_, rfl⟩
      have hBz : B.size ≤ 22 := by rw [unhide hB]; show (lab a).toArray.size ≤ 22; simpa using hll
      have HR1 : Hid (R = .tuple #[.string (N ++ ⟨#[32]⟩ ++ B), .bool true]) := by unfold Hid; rw [unhide HR0, app3, unhide hB]; rfl
      rw [← unhide hB] at HL
      clear hll HR0
      go_wp2_with fail
      refine (unhide HL _).mono ?_
      rintro e W4 ⟨rfl, hb⟩
      have F4 : Hid (Below w.heap.size w W4) := (unhide HLOW).trans (hb.mono (by have := unhide HSZ; omega))
      clear hb p0 p1 i0 i1
      go_wp2_with fail
      go_ret2
      exact ⟨by rw [unhide HR1]; rfl, unhide F4⟩
    have e2 : (K == 2) = false := by simpa using k2
    have HRb : Hid (R = inV (if K = 5 then (ns[a.toNat]?).map (fun s => N.data.toList ++ [32] ++ s.data.toList) else some (N.data.toList ++ [32] ++ Lib.itoa a))) := by
      unfold Hid; rw [unhide HRa, if_neg k2]
    clear HRa k2
    by_cases k5 : K = 5
    · have HRc : Hid (R = inV ((ns[a.toNat]?).map (fun s => N.data.toList ++ [32] ++ s.data.toList))) := by unfold Hid; rw [unhide HRb, if_pos k5]
      obtain ⟨j, rfl⟩ : ∃ j : Nat, a = (j : Int) := ⟨a.toNat, by have := unhide HPL k5; omega⟩
      subst k5
      by_cases hlt : j < NL
      · obtain ⟨s, hs⟩ : ∃ s, ns[j]? = some s := ⟨_, List.getElem?_eq_getElem (by rw [unhide hNL]; exact hlt)⟩
        have HR0 : Hid (R = inV (some (N.data.toList ++ [32] ++ s.data.toList))) := by unfold Hid; rw [unhide HRc, Int.toNat_natCast, hs]; rfl
        obtain ⟨b, off, pr, lc, a1, n1, c1, a2, n2, c2, rfl, hb, c⟩ := unhide HAT j s hs
        have hsz := unhide HNS s (List.mem_of_getElem? hs)
        have c0 : W3.cell? ⟨b, off + j * 5, none⟩ = some (.string s) := ((unhide HLOW).cell (p := ⟨b, off + j * 5, none⟩) hb).trans (c 0 _ rfl)
        have j0 : (0 : Int) ≤ (j : Int) := by omega
        have j1 : (j : Int) < (NL : Int) := by omega
        have j2 : ¬ (NL : Int) ≤ (j : Int) := by omega
        clear c hs hb
        have HR1 : Hid (R = .tuple #[.string (N ++ ⟨#[32]⟩ ++ s), .bool true]) := by unfold Hid; rw [unhide HR0, app3]; rfl
        clear HR0
        go_wp2_with fail
        go_ret2
        exact ⟨by rw [unhide HR1]; rfl, unhide HLOW⟩
      · have HR0 : Hid (R = .tuple #[.string ⟨#[]⟩, .bool false]) := by unfold Hid; rw [unhide HRc, Int.toNat_natCast, List.getElem?_eq_none (by rw [unhide hNL]; omega)]; rfl
        have j2 : (NL : Int) ≤ (j : Int) := by omega
        go_wp2_with fail
        go_ret2
        exact ⟨by rw [unhide HR0]; rfl, unhide HLOW⟩
    · have HR0 : Hid (R = inV (some (N.data.toList ++ [32] ++ Lib.itoa a))) := by unfold Hid; rw [unhide HRb, if_neg k5]
      have e5 : (K == 5) = false := by simpa using k5
      have hll := itoa_len a (unhide HI)
      have e6 : (K != 5) = true := by simpa using k5
      have HL := hide (refInt_any a (unhide HI).1 (unhide HI).2)
      obtain ⟨B, hB⟩ : ∃ B : ByteArray, Hid (B = ⟨(Lib.itoa a).toArray⟩) := ⟨_, rfl⟩
      have hBz : B.size ≤ 21 := by rw [unhide hB]; show (Lib.itoa a).toArray.size ≤ 21; simpa using hll
      have HR1 : Hid (R = .tuple #[.string (N ++ ⟨#[32]⟩ ++ B), .bool true]) := by unfold Hid; rw [unhide HR0, app3, unhide hB]; rfl
      rw [← unhide hB] at HL
      clear hll HR0
      go_wp2_with fail
      refine (unhide HL _).mono ?_
      rintro e W4 ⟨rfl, hb⟩
      have F4 : Hid (Below w.heap.size w W4) := (unhide HLOW).trans (hb.mono (by have := unhide HSZ; omega))
      clear hb p0 p1 i0 i1
      go_wp2_with fail
      go_ret2
      exact ⟨by rw [unhide HR1]; rfl, unhide F4⟩
set_option maxHeartbeats 4000000 in
set_option maxRecDepth 100000 in
theorem ins_any {w : World} {v : Value} {ns : List ByteArray} (op a : Int) (h : PgN w v ns) (ha : I64 a) (hns : ∀ s ∈ ns, s.size ≤ 1048576) (hT : T10 w) :
    Calls Tryd.prog 6 #[v, .agg #[.int .i64 op, .int .i64 a]] w fun e w' => e = .returned (inV (insT ns op a)) ∧ Below w.heap.size w w' := by
  obtain ⟨ca, cn, ccap, fa, cap, rfl, hat⟩ := h
  have HAT := hide hat
  clear hat
  have HNS := hide hns
  clear hns
  have HCk := hide (fun w => check_any w op a)
  have HNm := hide (fun w => name_any w op)
  have HOp := hide (fun w => operand_any w op)
  have HI := hide ha
  have HI2 : IntKind.i64.wrap a = a := by unfold I64 at ha; rw [IntKind.wrap_i64]; omega
  clear ha
  have HT := hide hT
  clear hT
  obtain ⟨NL, hNL⟩ : ∃ L, Hid (ns.length = L) := ⟨_, rfl⟩
  rw [unhide hNL]
  obtain ⟨N, hN⟩ : ∃ N, Hid (nmI op = N) := ⟨_, rfl⟩
  have hNz : N.size ≤ 16 := by rw [← unhide hN]; exact nmI_size op
  obtain ⟨K, hK⟩ : ∃ K, Hid (kdI op = K) := ⟨_, rfl⟩
  obtain ⟨I, hI⟩ : ∃ I, Hid (isOp op = I) := ⟨_, rfl⟩
  rw [unhide hN, unhide hI] at HNm
  rw [unhide hK, unhide hI] at HOp
  obtain ⟨R, hR⟩ : ∃ R, Hid (inV (insT ns op a) = R) := ⟨_, rfl⟩
  rw [unhide hR]
  cases hok : okB op a
  case false =>
    have her : erN op a = 7 := by rw [erN, hok]; rfl
    rw [her] at HCk
    have HR : Hid (R = .tuple #[.string ⟨#[]⟩, .bool false]) := by rw [← unhide hR]; unfold insT; rw [if_pos hok]; rfl
    clear hok her
    go_enter Tryd.func6, Tryd.ntmps6
    go_wp2_with fail
    obtain ⟨W0, hW0⟩ : ∃ x, Hid (((w.alloc (.cells #[.slice ca cn ccap, .slice fa NL cap] 25)).alloc (.cells #[.int .i64 op, .int .i64 a] 27)) = x) := ⟨_, rfl⟩
    rw [unhide hW0]
    refine (unhide HCk _).mono ?_
    rintro e W1 ⟨rfl, hb⟩
    have F1 : Hid (Below (w.heap.size + 2) ((w.alloc (.cells #[.slice ca cn ccap, .slice fa NL cap] 25)).alloc (.cells #[.int .i64 op, .int .i64 a] 27)) W1) := by
      unfold Hid; rw [unhide hW0]; exact hb.mono (by rw [← unhide hW0]; simp)
    clear hb
    obtain ⟨p0, p1, i0, i1, hlow, hsz⟩ := boxPI (unhide F1)
    have HLOW := hide hlow
    have HSZ := hide hsz
    clear hlow hsz
    clear p0 p1 i0 i1
    go_wp2_with fail
    go_ret2
    exact ⟨by rw [unhide HR]; rfl, unhide HLOW⟩
  case true =>
    have her : erN op a = 0 := by rw [erN, hok]; rfl
    rw [her] at HCk
    have HR : Hid (R = inV (if K = 0 then some N.data.toList else if K = 2 then some (N.data.toList ++ [32] ++ lab a) else if K = 5 then (ns[a.toNat]?).map (fun s => N.data.toList ++ [32] ++ s.data.toList) else some (N.data.toList ++ [32] ++ Lib.itoa a))) := by
      unfold Hid; rw [← unhide hR]; unfold insT; rw [if_neg (by rw [hok]; simp), unhide hN, unhide hK]
    have HPL : Hid (K = 5 → 0 ≤ a ∧ a ≤ 127) := fun h => okB_place hok ((unhide hK).trans h)
    clear hok her
    go_enter Tryd.func6, Tryd.ntmps6
    go_wp2_with fail
    obtain ⟨W0, hW0⟩ : ∃ x, Hid (((w.alloc (.cells #[.slice ca cn ccap, .slice fa NL cap] 25)).alloc (.cells #[.int .i64 op, .int .i64 a] 27)) = x) := ⟨_, rfl⟩
    rw [unhide hW0]
    refine (unhide HCk _).mono ?_
    rintro e W1 ⟨rfl, hb⟩
    have F1 : Hid (Below (w.heap.size + 2) ((w.alloc (.cells #[.slice ca cn ccap, .slice fa NL cap] 25)).alloc (.cells #[.int .i64 op, .int .i64 a] 27)) W1) := by
      unfold Hid; rw [unhide hW0]; exact hb.mono (by rw [← unhide hW0]; simp)
    clear hb
    obtain ⟨p0, p1, i0, i1, hlow, hsz⟩ := boxPI (unhide F1)
    have HLOW := hide hlow
    have HSZ := hide hsz
    clear hlow hsz
    go_wp2_with fail
    refine (unhide HNm _).mono ?_
    rintro e W2 ⟨rfl, hX⟩
    obtain rfl := hX.symm
    clear hX
    go_wp2_with fail
    refine (unhide HOp _).mono ?_
    rintro e W3 ⟨rfl, hb⟩
    have F3 : Hid (Below (w.heap.size + 2) ((w.alloc (.cells #[.slice ca cn ccap, .slice fa NL cap] 25)).alloc (.cells #[.int .i64 op, .int .i64 a] 27)) W3) := (unhide F1).trans (hb.mono (unhide HSZ))
    clear hb p0 p1 i0 i1 HLOW HSZ
    obtain ⟨p0, p1, i0, i1, hlow, hsz⟩ := boxPI (unhide F3)
    have HLOW := hide hlow
    have HSZ := hide hsz
    clear hlow hsz
    by_cases k0 : K = 0
    · have HR0 : Hid (R = .tuple #[.string N, .bool true]) := by unfold Hid; rw [unhide HR, if_pos k0]; exact congrArg (fun x => Value.tuple #[.string x, .bool true]) (ba_self N)
      subst k0
      go_wp2_with fail
      go_ret2
      exact ⟨by rw [unhide HR0]; rfl, unhide HLOW⟩
    have e0 : (K == 0) = false := by simpa using k0
    have HRa : Hid (R = inV (if K = 2 then some (N.data.toList ++ [32] ++ lab a) else if K = 5 then (ns[a.toNat]?).map (fun s => N.data.toList ++ [32] ++ s.data.toList) else some (N.data.toList ++ [32] ++ Lib.itoa a))) := by
      unfold Hid; rw [unhide HR, if_neg k0]
    clear HR k0
    by_cases k2 : K = 2
    · have HR0 : Hid (R = inV (some (N.data.toList ++ [32] ++ lab a))) := by unfold Hid; rw [unhide HRa, if_pos k2]
      subst k2
      have hll : (lab a).length ≤ 22 := by have := itoa_len a (unhide HI); unfold lab; rw [List.length_cons]; omega
      have hT3 : T10 W3 := (unhide HT).below (unhide HLOW) (unhide HT).size
      have HL := hide (label_any a (unhide HI) W3 hT3)
      obtain ⟨B, hB⟩ : ∃ B : ByteArray, Hid (B = ⟨(lab a).toArray⟩) := ⟨_, rfl⟩
      have hBz : Hid (B.size ≤ 22) := by unfold Hid; rw [unhide hB]; show (lab a).toArray.size ≤ 22; simpa using hll
      have HR1 : Hid (R = .tuple #[.string ⟨(N.data.toList ++ [32] ++ B.data.toList).toArray⟩, .bool true]) := by unfold Hid; rw [unhide HR0, unhide hB]; rfl
      rw [← unhide hB] at HL
      clear hll HR0 hT3
      go_wp2_with fail
      refine (unhide HL).mono ?_
      rintro e W4 ⟨rfl, hb⟩
      have F4 : Hid (Below w.heap.size w W4) := (unhide HLOW).trans (hb.mono (by have := unhide HSZ; omega))
      clear hb p0 p1 i0 i1
      have n0 := new_cells W4 #[.string N, .string B] 9 0 _ rfl
      have n1 := new_cells W4 #[.string N, .string B] 9 1 _ rfl
      rw [Go.WideShapes.add_plain] at n0 n1
      have HJ := hide (line2_any W4.heap.size N B (W4.alloc (.cells #[.string N, .string B] 9)) n0 n1 (by omega) (by have := unhide hBz; omega))
      have F5 : Hid (Below w.heap.size w (W4.alloc (.cells #[.string N, .string B] 9))) := (unhide F4).alloc (unhide F4).size _
      clear n0 n1
      obtain ⟨LL, hLL⟩ : ∃ x : ByteArray, Hid ((⟨(N.data.toList ++ [32] ++ B.data.toList).toArray⟩ : ByteArray) = x) := ⟨_, hide rfl⟩
      rw [unhide hLL] at HR1 HJ
      go_wp2_with fail
      refine (unhide HJ).mono ?_
      rintro e W6 ⟨rfl, hb⟩
      have F6 : Hid (Below w.heap.size w W6) := (unhide F5).trans (hb.mono (unhide F5).size)
      clear hb HJ
      go_wp2_with fail
      go_ret2
      exact ⟨by rw [unhide HR1]; rfl, unhide F6⟩
    have e2 : (K == 2) = false := by simpa using k2
    have HRb : Hid (R = inV (if K = 5 then (ns[a.toNat]?).map (fun s => N.data.toList ++ [32] ++ s.data.toList) else some (N.data.toList ++ [32] ++ Lib.itoa a))) := by
      unfold Hid; rw [unhide HRa, if_neg k2]
    clear HRa k2
    by_cases k5 : K = 5
    · have HRc : Hid (R = inV ((ns[a.toNat]?).map (fun s => N.data.toList ++ [32] ++ s.data.toList))) := by unfold Hid; rw [unhide HRb, if_pos k5]
      obtain ⟨j, rfl⟩ : ∃ j : Nat, a = (j : Int) := ⟨a.toNat, by have := unhide HPL k5; omega⟩
      subst k5
      by_cases hlt : j < NL
      · obtain ⟨s, hs⟩ : ∃ s, ns[j]? = some s := ⟨_, List.getElem?_eq_getElem (by rw [unhide hNL]; exact hlt)⟩
        have HR0 : Hid (R = inV (some (N.data.toList ++ [32] ++ s.data.toList))) := by unfold Hid; rw [unhide HRc, Int.toNat_natCast, hs]; rfl
        obtain ⟨b, off, pr, lc, a1, n1, c1, a2, n2, c2, rfl, hb, c⟩ := unhide HAT j s hs
        have hsz := unhide HNS s (List.mem_of_getElem? hs)
        have c0 : W3.cell? ⟨b, off + j * 5, none⟩ = some (.string s) := ((unhide HLOW).cell (p := ⟨b, off + j * 5, none⟩) hb).trans (c 0 _ rfl)
        have j0 : (0 : Int) ≤ (j : Int) := by omega
        have j1 : (j : Int) < (NL : Int) := by omega
        have j2 : ¬ (NL : Int) ≤ (j : Int) := by omega
        clear c hs hb
        have HR1 : Hid (R = .tuple #[.string ⟨(N.data.toList ++ [32] ++ s.data.toList).toArray⟩, .bool true]) := by unfold Hid; rw [unhide HR0]; rfl
        have hBz : Hid (s.size ≤ 1048576) := hsz
        obtain ⟨W4, hW4⟩ : ∃ x, x = W3 := ⟨_, rfl⟩
        subst hW4
        have F4 := HLOW
        clear HR0
        have n0 := new_cells W4 #[.string N, .string s] 9 0 _ rfl
        have n1 := new_cells W4 #[.string N, .string s] 9 1 _ rfl
        rw [Go.WideShapes.add_plain] at n0 n1
        have HJ := hide (line2_any W4.heap.size N s (W4.alloc (.cells #[.string N, .string s] 9)) n0 n1 (by omega) (by have := unhide hBz; omega))
        have F5 : Hid (Below w.heap.size w (W4.alloc (.cells #[.string N, .string s] 9))) := (unhide F4).alloc (unhide F4).size _
        clear n0 n1
        obtain ⟨LL, hLL⟩ : ∃ x : ByteArray, Hid ((⟨(N.data.toList ++ [32] ++ s.data.toList).toArray⟩ : ByteArray) = x) := ⟨_, hide rfl⟩
        rw [unhide hLL] at HR1 HJ
        go_wp2_with fail
        refine (unhide HJ).mono ?_
        rintro e W6 ⟨rfl, hb⟩
        have F6 : Hid (Below w.heap.size w W6) := (unhide F5).trans (hb.mono (unhide F5).size)
        clear hb HJ
        go_wp2_with fail
        go_ret2
        exact ⟨by rw [unhide HR1]; rfl, unhide F6⟩
      · have HR0 : Hid (R = .tuple #[.string ⟨#[]⟩, .bool false]) := by unfold Hid; rw [unhide HRc, Int.toNat_natCast, List.getElem?_eq_none (by rw [unhide hNL]; omega)]; rfl
        have j2 : (NL : Int) ≤ (j : Int) := by omega
        go_wp2_with fail
        go_ret2
        exact ⟨by rw [unhide HR0]; rfl, unhide HLOW⟩
    · have HR0 : Hid (R = inV (some (N.data.toList ++ [32] ++ Lib.itoa a))) := by unfold Hid; rw [unhide HRb, if_neg k5]
      have e5 : (K == 5) = false := by simpa using k5
      have hll := itoa_len a (unhide HI)
      have hT3 : T10 W3 := (unhide HT).below (unhide HLOW) (unhide HT).size
      have HL := hide (int_any a (unhide HI).1 (unhide HI).2 W3 hT3)
      obtain ⟨B, hB⟩ : ∃ B : ByteArray, Hid (B = ⟨(Lib.itoa a).toArray⟩) := ⟨_, rfl⟩
      have hBz : Hid (B.size ≤ 21) := by unfold Hid; rw [unhide hB]; show (Lib.itoa a).toArray.size ≤ 21; simpa using hll
      have HR1 : Hid (R = .tuple #[.string ⟨(N.data.toList ++ [32] ++ B.data.toList).toArray⟩, .bool true]) := by unfold Hid; rw [unhide HR0, unhide hB]; rfl
      rw [← unhide hB] at HL
      clear hll HR0 hT3
      go_wp2_with fail
      refine (unhide HL).mono ?_
      rintro e W4 ⟨rfl, hb⟩
      have F4 : Hid (Below w.heap.size w W4) := (unhide HLOW).trans (hb.mono (by have := unhide HSZ; omega))
      clear hb p0 p1 i0 i1
      have n0 := new_cells W4 #[.string N, .string B] 9 0 _ rfl
      have n1 := new_cells W4 #[.string N, .string B] 9 1 _ rfl
      rw [Go.WideShapes.add_plain] at n0 n1
      have HJ := hide (line2_any W4.heap.size N B (W4.alloc (.cells #[.string N, .string B] 9)) n0 n1 (by omega) (by have := unhide hBz; omega))
      have F5 : Hid (Below w.heap.size w (W4.alloc (.cells #[.string N, .string B] 9))) := (unhide F4).alloc (unhide F4).size _
      clear n0 n1
      obtain ⟨LL, hLL⟩ : ∃ x : ByteArray, Hid ((⟨(N.data.toList ++ [32] ++ B.data.toList).toArray⟩ : ByteArray) = x) := ⟨_, hide rfl⟩
      rw [unhide hLL] at HR1 HJ
      go_wp2_with fail
      refine (unhide HJ).mono ?_
      rintro e W6 ⟨rfl, hb⟩
      have F6 : Hid (Below w.heap.size w W6) := (unhide F5).trans (hb.mono (unhide F5).size)
      clear hb HJ
      go_wp2_with fail
      go_ret2
      exact ⟨by rw [unhide HR1]; rfl, unhide F6⟩
end Go.Proofs.YtpceokegcjombaaDoor
