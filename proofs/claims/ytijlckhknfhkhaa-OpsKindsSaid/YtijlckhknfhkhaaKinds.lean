/-
  Names of kinds and traps; which operations are done, and which are pure.
-/
import Derived.Test.YtijlckhknfhkhaaWord
namespace Go.Proofs.Ytijlckhknfhkhaa
open Go.RowKit


/-- Some operations one behind the other, that answer values. -/
def runs (P : Program) : List Oper → Act → World → Option (Act × World)
  | [], a, w => some (a, w)
  | o :: r, a, w => match o.guard with
    | some _ => none
    | none => match (execOp a.eval o).run P w with
      | .ok (.value v) w' => runs P r (a.put o.dst v) w'
      | _ => none
theorem wpList_runs {P : Program} {ops : Array Oper} {Q : Exit → Act → World → Prop} {rest : List Oper} {a' : Act} {w' : World} : ∀ (l : List Oper) (a : Act) (w : World),
    runs P l a w = some (a', w') → wpList P ops Q rest a' w' → wpList P ops Q (l ++ rest) a w
  | [], a, w, h, k => by
    simp only [runs, Option.some.injEq, Prod.mk.injEq] at h
    obtain ⟨rfl, rfl⟩ := h
    exact k
  | o :: r, a, w, h, k => by
    rw [runs] at h
    split at h
    · cases h
    · rename_i hg
      split at h
      · rename_i v w2 hv
        refine wpList_plain hg fun K hK => ?_
        unfold Oper.wp
        rw [hv]
        exact hK _ _ (wpList_runs r _ _ h k)
      · cases h
theorem wpList_skip {P : Program} {ops : Array Oper} {Q : Exit → Act → World → Prop} {l : List Oper} {a : Act} {w : World} (m n : Nat) (_ : l.length = m) (a' : Act)
    (h : runs P (l.take n) a w = some (a', w)) (k : wpList P ops Q (l.drop n) a' w) : wpList P ops Q l a w := by
  have := wpList_runs (rest := l.drop n) (l.take n) a w h k
  rwa [List.take_append_drop] at this

def KT : ByteArray := ⟨#[110, 105, 108, 32, 98, 111, 111, 108, 32, 105, 110, 116, 32, 114, 101, 97, 108, 32, 116, 101, 120, 116, 32, 102, 117, 110, 99, 32, 97, 114, 114, 97, 121, 32, 114, 101, 99, 111, 114, 100, 32, 98, 111, 117, 110, 100, 32, 99, 104, 97, 110, 32]⟩
def TT : ByteArray := ⟨#[116, 121, 112, 101, 32, 100, 105, 118, 105, 100, 101, 32, 105, 110, 100, 101, 120, 32, 107, 101, 121, 32, 97, 114, 105, 116, 121, 32, 100, 101, 101, 112, 32, 99, 108, 111, 115, 101, 100, 32, 114, 97, 110, 103, 101, 32, 102, 111, 114, 109, 32, 102, 105, 98, 101, 114, 115, 32]⟩
def kn (n : Int) : ByteArray := if n = 0 then ⟨#[110, 105, 108]⟩ else if n = 1 then ⟨#[98, 111, 111, 108]⟩ else if n = 2 then ⟨#[105, 110, 116]⟩ else if n = 3 then ⟨#[114, 101, 97, 108]⟩ else if n = 4 then ⟨#[116, 101, 120, 116]⟩ else if n = 5 then ⟨#[102, 117, 110, 99]⟩ else if n = 6 then ⟨#[97, 114, 114, 97, 121]⟩ else if n = 7 then ⟨#[114, 101, 99, 111, 114, 100]⟩ else if n = 8 then ⟨#[98, 111, 117, 110, 100]⟩ else if n = 9 then ⟨#[99, 104, 97, 110]⟩ else ⟨#[]⟩
def tn (n : Int) : ByteArray := if n = 1 then ⟨#[116, 121, 112, 101]⟩ else if n = 2 then ⟨#[100, 105, 118, 105, 100, 101]⟩ else if n = 3 then ⟨#[105, 110, 100, 101, 120]⟩ else if n = 4 then ⟨#[107, 101, 121]⟩ else if n = 5 then ⟨#[97, 114, 105, 116, 121]⟩ else if n = 6 then ⟨#[100, 101, 101, 112]⟩ else if n = 7 then ⟨#[99, 108, 111, 115, 101, 100]⟩ else if n = 8 then ⟨#[114, 97, 110, 103, 101]⟩ else if n = 9 then ⟨#[102, 111, 114, 109]⟩ else if n = 10 then ⟨#[102, 105, 98, 101, 114, 115]⟩ else ⟨#[]⟩

theorem kn_wd (n : Int) (h : 0 ≤ n ∧ n < 10) : wd KT n 52 0 0 0 = kn n := by
  obtain rfl | rfl | rfl | rfl | rfl | rfl | rfl | rfl | rfl | rfl : n = 0 ∨ n = 1 ∨ n = 2 ∨ n = 3 ∨ n = 4 ∨ n = 5 ∨ n = 6 ∨ n = 7 ∨ n = 8 ∨ n = 9 := by omega
  all_goals decide +kernel
theorem kn_no (n : Int) (h : ¬ (0 ≤ n ∧ n < 10)) : kn n = ⟨#[]⟩ := by
  unfold kn
  rw [if_neg (by omega)]; rw [if_neg (by omega)]; rw [if_neg (by omega)]; rw [if_neg (by omega)]; rw [if_neg (by omega)]; rw [if_neg (by omega)]; rw [if_neg (by omega)]; rw [if_neg (by omega)]; rw [if_neg (by omega)]; rw [if_neg (by omega)]
theorem kn_size : KT.size = 52 := by decide +kernel
theorem kn_wn : wn KT 52 0 = 10 := by decide +kernel

theorem tn_wd (n : Int) (h : 1 ≤ n ∧ n < 11) : wd TT (n - 1) 58 0 0 0 = tn n := by
  obtain rfl | rfl | rfl | rfl | rfl | rfl | rfl | rfl | rfl | rfl : n = 1 ∨ n = 2 ∨ n = 3 ∨ n = 4 ∨ n = 5 ∨ n = 6 ∨ n = 7 ∨ n = 8 ∨ n = 9 ∨ n = 10 := by omega
  all_goals decide +kernel
theorem tn_no (n : Int) (h : ¬ (1 ≤ n ∧ n < 11)) : tn n = ⟨#[]⟩ := by
  unfold tn
  rw [if_neg (by omega)]; rw [if_neg (by omega)]; rw [if_neg (by omega)]; rw [if_neg (by omega)]; rw [if_neg (by omega)]; rw [if_neg (by omega)]; rw [if_neg (by omega)]; rw [if_neg (by omega)]; rw [if_neg (by omega)]; rw [if_neg (by omega)]
theorem tn_size : TT.size = 58 := by decide +kernel
theorem tn_wn : wn TT 58 0 = 10 := by decide +kernel

theorem kn_all (n : Int) : wd KT n 52 0 0 0 = kn n := by
  by_cases h : 0 ≤ n ∧ n < 10
  · exact kn_wd n h
  · rw [kn_no n h]
    refine wd_no KT n 52 0 0 0 ?_
    rw [kn_wn]
    omega
theorem tn_all (n : Int) (hn : -9223372036854775808 ≤ n ∧ n ≤ 9223372036854775807) : wd TT (wrap64 (n - 1)) 58 0 0 0 = tn n := by
  by_cases h : 1 ≤ n ∧ n < 11
  · rw [show wrap64 (n - 1) = n - 1 by unfold wrap64; omega]
    exact tn_wd n h
  · rw [tn_no n h]
    refine wd_no TT _ 58 0 0 0 ?_
    rw [tn_wn]
    unfold wrap64
    omega

set_option maxRecDepth 100000 in
set_option maxHeartbeats 1000000 in
theorem rkn_any (w : World) (n : Int) (hn : -9223372036854775808 ≤ n ∧ n ≤ 9223372036854775807) : Calls Try.prog 9 #[.int .i64 n] w fun e w' => e = .returned (.string (kn n)) ∧ w' = w := by
  have H := hide (word_any w KT n (by rw [kn_size]; omega) hn)
  rw [kn_size, kn_all] at H
  have H2 : Hid (Calls Try.prog 12 #[.string ⟨#[110, 105, 108, 32, 98, 111, 111, 108, 32, 105, 110, 116, 32, 114, 101, 97, 108, 32, 116, 101, 120, 116, 32, 102, 117, 110, 99, 32, 97, 114, 114, 97, 121, 32, 114, 101, 99, 111, 114, 100, 32, 98, 111, 117, 110, 100, 32, 99, 104, 97, 110, 32]⟩, .int .i64 n] w fun e w' => e = .returned (.string (kn n)) ∧ w' = w) := H
  generalize kn n = s at *
  clear H hn
  go_enter Try.func9, Try.ntmps9
  go_wp2_with fail
  refine (unhide H2).mono ?_
  rintro e w' ⟨rfl, rfl⟩
  go_wp2
  go_ret
  exact ⟨rfl, rfl⟩
set_option maxRecDepth 100000 in
set_option maxHeartbeats 1000000 in
theorem rtn_any (w : World) (n : Int) (hn : -9223372036854775808 ≤ n ∧ n ≤ 9223372036854775807) : Calls Try.prog 11 #[.int .i64 n] w fun e w' => e = .returned (.string (tn n)) ∧ w' = w := by
  have H := hide (word_any w TT (wrap64 (n - 1)) (by rw [tn_size]; omega) (by unfold wrap64; omega))
  rw [tn_size, tn_all n hn] at H
  have H2 : Hid (Calls Try.prog 12 #[.string ⟨#[116, 121, 112, 101, 32, 100, 105, 118, 105, 100, 101, 32, 105, 110, 100, 101, 120, 32, 107, 101, 121, 32, 97, 114, 105, 116, 121, 32, 100, 101, 101, 112, 32, 99, 108, 111, 115, 101, 100, 32, 114, 97, 110, 103, 101, 32, 102, 111, 114, 109, 32, 102, 105, 98, 101, 114, 115, 32]⟩, .int .i64 (wrap64 (n - 1))] w fun e w' => e = .returned (.string (tn n)) ∧ w' = w) := H
  generalize tn n = s at *
  clear H hn
  go_enter Try.func11, Try.ntmps11
  go_wp2_with fail
  refine (unhide H2).mono ?_
  rintro e w' ⟨rfl, rfl⟩
  go_wp2
  go_ret
  exact ⟨rfl, rfl⟩

set_option maxRecDepth 100000 in
set_option maxHeartbeats 1000000 in
theorem kn_any (w : World) (n : Int) : Calls Try.prog 8 #[.int .i64 n] w fun e w' => e = .returned (.string (kn n)) ∧ w' = w := by
  by_cases h : 0 ≤ n ∧ n ≤ 9
  · obtain rfl | rfl | rfl | rfl | rfl | rfl | rfl | rfl | rfl | rfl : n = 0 ∨ n = 1 ∨ n = 2 ∨ n = 3 ∨ n = 4 ∨ n = 5 ∨ n = 6 ∨ n = 7 ∨ n = 8 ∨ n = 9 := by omega
    · go_enter Try.func8, Try.ntmps8
      go_wp2_with (refine wpList_skip 4 4 rfl ⟨#[.int .i64 0, undef, .string ⟨#[110, 105, 108]⟩, .int .i64 0, .bool false, .bool false, .int .i64 0, .bool false, .bool false, .agg #[.string ⟨#[110, 105, 108]⟩, .string ⟨#[98, 111, 111, 108]⟩, .string ⟨#[105, 110, 116]⟩, .string ⟨#[114, 101, 97, 108]⟩, .string ⟨#[116, 101, 120, 116]⟩, .string ⟨#[102, 117, 110, 99]⟩, .string ⟨#[97, 114, 114, 97, 121]⟩, .string ⟨#[114, 101, 99, 111, 114, 100]⟩, .string ⟨#[98, 111, 117, 110, 100]⟩, .string ⟨#[99, 104, 97, 110]⟩], .int .i64 0, .string ⟨#[110, 105, 108]⟩], []⟩ (by kernel_rfl) ?_; simp only [List.drop])
      go_ret
      exact ⟨rfl, rfl⟩
    · go_enter Try.func8, Try.ntmps8
      go_wp2_with (refine wpList_skip 4 4 rfl ⟨#[.int .i64 1, undef, .string ⟨#[98, 111, 111, 108]⟩, .int .i64 1, .bool false, .bool false, .int .i64 1, .bool false, .bool false, .agg #[.string ⟨#[110, 105, 108]⟩, .string ⟨#[98, 111, 111, 108]⟩, .string ⟨#[105, 110, 116]⟩, .string ⟨#[114, 101, 97, 108]⟩, .string ⟨#[116, 101, 120, 116]⟩, .string ⟨#[102, 117, 110, 99]⟩, .string ⟨#[97, 114, 114, 97, 121]⟩, .string ⟨#[114, 101, 99, 111, 114, 100]⟩, .string ⟨#[98, 111, 117, 110, 100]⟩, .string ⟨#[99, 104, 97, 110]⟩], .int .i64 1, .string ⟨#[98, 111, 111, 108]⟩], []⟩ (by kernel_rfl) ?_; simp only [List.drop])
      go_ret
      exact ⟨rfl, rfl⟩
    · go_enter Try.func8, Try.ntmps8
      go_wp2_with (refine wpList_skip 4 4 rfl ⟨#[.int .i64 2, undef, .string ⟨#[105, 110, 116]⟩, .int .i64 2, .bool false, .bool false, .int .i64 2, .bool false, .bool false, .agg #[.string ⟨#[110, 105, 108]⟩, .string ⟨#[98, 111, 111, 108]⟩, .string ⟨#[105, 110, 116]⟩, .string ⟨#[114, 101, 97, 108]⟩, .string ⟨#[116, 101, 120, 116]⟩, .string ⟨#[102, 117, 110, 99]⟩, .string ⟨#[97, 114, 114, 97, 121]⟩, .string ⟨#[114, 101, 99, 111, 114, 100]⟩, .string ⟨#[98, 111, 117, 110, 100]⟩, .string ⟨#[99, 104, 97, 110]⟩], .int .i64 2, .string ⟨#[105, 110, 116]⟩], []⟩ (by kernel_rfl) ?_; simp only [List.drop])
      go_ret
      exact ⟨rfl, rfl⟩
    · go_enter Try.func8, Try.ntmps8
      go_wp2_with (refine wpList_skip 4 4 rfl ⟨#[.int .i64 3, undef, .string ⟨#[114, 101, 97, 108]⟩, .int .i64 3, .bool false, .bool false, .int .i64 3, .bool false, .bool false, .agg #[.string ⟨#[110, 105, 108]⟩, .string ⟨#[98, 111, 111, 108]⟩, .string ⟨#[105, 110, 116]⟩, .string ⟨#[114, 101, 97, 108]⟩, .string ⟨#[116, 101, 120, 116]⟩, .string ⟨#[102, 117, 110, 99]⟩, .string ⟨#[97, 114, 114, 97, 121]⟩, .string ⟨#[114, 101, 99, 111, 114, 100]⟩, .string ⟨#[98, 111, 117, 110, 100]⟩, .string ⟨#[99, 104, 97, 110]⟩], .int .i64 3, .string ⟨#[114, 101, 97, 108]⟩], []⟩ (by kernel_rfl) ?_; simp only [List.drop])
      go_ret
      exact ⟨rfl, rfl⟩
    · go_enter Try.func8, Try.ntmps8
      go_wp2_with (refine wpList_skip 4 4 rfl ⟨#[.int .i64 4, undef, .string ⟨#[116, 101, 120, 116]⟩, .int .i64 4, .bool false, .bool false, .int .i64 4, .bool false, .bool false, .agg #[.string ⟨#[110, 105, 108]⟩, .string ⟨#[98, 111, 111, 108]⟩, .string ⟨#[105, 110, 116]⟩, .string ⟨#[114, 101, 97, 108]⟩, .string ⟨#[116, 101, 120, 116]⟩, .string ⟨#[102, 117, 110, 99]⟩, .string ⟨#[97, 114, 114, 97, 121]⟩, .string ⟨#[114, 101, 99, 111, 114, 100]⟩, .string ⟨#[98, 111, 117, 110, 100]⟩, .string ⟨#[99, 104, 97, 110]⟩], .int .i64 4, .string ⟨#[116, 101, 120, 116]⟩], []⟩ (by kernel_rfl) ?_; simp only [List.drop])
      go_ret
      exact ⟨rfl, rfl⟩
    · go_enter Try.func8, Try.ntmps8
      go_wp2_with (refine wpList_skip 4 4 rfl ⟨#[.int .i64 5, undef, .string ⟨#[102, 117, 110, 99]⟩, .int .i64 5, .bool false, .bool false, .int .i64 5, .bool false, .bool false, .agg #[.string ⟨#[110, 105, 108]⟩, .string ⟨#[98, 111, 111, 108]⟩, .string ⟨#[105, 110, 116]⟩, .string ⟨#[114, 101, 97, 108]⟩, .string ⟨#[116, 101, 120, 116]⟩, .string ⟨#[102, 117, 110, 99]⟩, .string ⟨#[97, 114, 114, 97, 121]⟩, .string ⟨#[114, 101, 99, 111, 114, 100]⟩, .string ⟨#[98, 111, 117, 110, 100]⟩, .string ⟨#[99, 104, 97, 110]⟩], .int .i64 5, .string ⟨#[102, 117, 110, 99]⟩], []⟩ (by kernel_rfl) ?_; simp only [List.drop])
      go_ret
      exact ⟨rfl, rfl⟩
    · go_enter Try.func8, Try.ntmps8
      go_wp2_with (refine wpList_skip 4 4 rfl ⟨#[.int .i64 6, undef, .string ⟨#[97, 114, 114, 97, 121]⟩, .int .i64 6, .bool false, .bool false, .int .i64 6, .bool false, .bool false, .agg #[.string ⟨#[110, 105, 108]⟩, .string ⟨#[98, 111, 111, 108]⟩, .string ⟨#[105, 110, 116]⟩, .string ⟨#[114, 101, 97, 108]⟩, .string ⟨#[116, 101, 120, 116]⟩, .string ⟨#[102, 117, 110, 99]⟩, .string ⟨#[97, 114, 114, 97, 121]⟩, .string ⟨#[114, 101, 99, 111, 114, 100]⟩, .string ⟨#[98, 111, 117, 110, 100]⟩, .string ⟨#[99, 104, 97, 110]⟩], .int .i64 6, .string ⟨#[97, 114, 114, 97, 121]⟩], []⟩ (by kernel_rfl) ?_; simp only [List.drop])
      go_ret
      exact ⟨rfl, rfl⟩
    · go_enter Try.func8, Try.ntmps8
      go_wp2_with (refine wpList_skip 4 4 rfl ⟨#[.int .i64 7, undef, .string ⟨#[114, 101, 99, 111, 114, 100]⟩, .int .i64 7, .bool false, .bool false, .int .i64 7, .bool false, .bool false, .agg #[.string ⟨#[110, 105, 108]⟩, .string ⟨#[98, 111, 111, 108]⟩, .string ⟨#[105, 110, 116]⟩, .string ⟨#[114, 101, 97, 108]⟩, .string ⟨#[116, 101, 120, 116]⟩, .string ⟨#[102, 117, 110, 99]⟩, .string ⟨#[97, 114, 114, 97, 121]⟩, .string ⟨#[114, 101, 99, 111, 114, 100]⟩, .string ⟨#[98, 111, 117, 110, 100]⟩, .string ⟨#[99, 104, 97, 110]⟩], .int .i64 7, .string ⟨#[114, 101, 99, 111, 114, 100]⟩], []⟩ (by kernel_rfl) ?_; simp only [List.drop])
      go_ret
      exact ⟨rfl, rfl⟩
    · go_enter Try.func8, Try.ntmps8
      go_wp2_with (refine wpList_skip 4 4 rfl ⟨#[.int .i64 8, undef, .string ⟨#[98, 111, 117, 110, 100]⟩, .int .i64 8, .bool false, .bool false, .int .i64 8, .bool false, .bool false, .agg #[.string ⟨#[110, 105, 108]⟩, .string ⟨#[98, 111, 111, 108]⟩, .string ⟨#[105, 110, 116]⟩, .string ⟨#[114, 101, 97, 108]⟩, .string ⟨#[116, 101, 120, 116]⟩, .string ⟨#[102, 117, 110, 99]⟩, .string ⟨#[97, 114, 114, 97, 121]⟩, .string ⟨#[114, 101, 99, 111, 114, 100]⟩, .string ⟨#[98, 111, 117, 110, 100]⟩, .string ⟨#[99, 104, 97, 110]⟩], .int .i64 8, .string ⟨#[98, 111, 117, 110, 100]⟩], []⟩ (by kernel_rfl) ?_; simp only [List.drop])
      go_ret
      exact ⟨rfl, rfl⟩
    · go_enter Try.func8, Try.ntmps8
      go_wp2_with (refine wpList_skip 4 4 rfl ⟨#[.int .i64 9, undef, .string ⟨#[99, 104, 97, 110]⟩, .int .i64 9, .bool false, .bool false, .int .i64 9, .bool false, .bool false, .agg #[.string ⟨#[110, 105, 108]⟩, .string ⟨#[98, 111, 111, 108]⟩, .string ⟨#[105, 110, 116]⟩, .string ⟨#[114, 101, 97, 108]⟩, .string ⟨#[116, 101, 120, 116]⟩, .string ⟨#[102, 117, 110, 99]⟩, .string ⟨#[97, 114, 114, 97, 121]⟩, .string ⟨#[114, 101, 99, 111, 114, 100]⟩, .string ⟨#[98, 111, 117, 110, 100]⟩, .string ⟨#[99, 104, 97, 110]⟩], .int .i64 9, .string ⟨#[99, 104, 97, 110]⟩], []⟩ (by kernel_rfl) ?_; simp only [List.drop])
      go_ret
      exact ⟨rfl, rfl⟩
  · rw [kn_no n (by omega)]
    by_cases h0 : n < 0
    · have h1 : decide (n < 0) = true := by simpa using h0
      clear h h0
      go_enter Try.func8, Try.ntmps8
      go_wp2
      go_ret
      exact ⟨rfl, rfl⟩
    · have h1 : decide (n < 0) = false := by simpa using h0
      have h2 : n > 9 := by omega
      have h3 : n ≥ 10 := by omega
      clear h h0
      go_enter Try.func8, Try.ntmps8
      go_wp2
      go_ret
      exact ⟨rfl, rfl⟩

set_option maxRecDepth 100000 in
set_option maxHeartbeats 1000000 in
theorem tn_any (w : World) (n : Int) : Calls Try.prog 10 #[.int .i64 n] w fun e w' => e = .returned (.string (tn n)) ∧ w' = w := by
  by_cases h : 0 ≤ n ∧ n ≤ 10
  · obtain rfl | rfl | rfl | rfl | rfl | rfl | rfl | rfl | rfl | rfl | rfl : n = 0 ∨ n = 1 ∨ n = 2 ∨ n = 3 ∨ n = 4 ∨ n = 5 ∨ n = 6 ∨ n = 7 ∨ n = 8 ∨ n = 9 ∨ n = 10 := by omega
    · go_enter Try.func10, Try.ntmps10
      go_wp2_with (refine wpList_skip 4 4 rfl ⟨#[.int .i64 0, undef, .string ByteArray.empty, .int .i64 0, .bool false, .bool false, .int .i64 0, .bool false, .bool false, .agg #[.string ByteArray.empty, .string ⟨#[116, 121, 112, 101]⟩, .string ⟨#[100, 105, 118, 105, 100, 101]⟩, .string ⟨#[105, 110, 100, 101, 120]⟩, .string ⟨#[107, 101, 121]⟩, .string ⟨#[97, 114, 105, 116, 121]⟩, .string ⟨#[100, 101, 101, 112]⟩, .string ⟨#[99, 108, 111, 115, 101, 100]⟩, .string ⟨#[114, 97, 110, 103, 101]⟩, .string ⟨#[102, 111, 114, 109]⟩, .string ⟨#[102, 105, 98, 101, 114, 115]⟩], .int .i64 0, .string ByteArray.empty], []⟩ (by kernel_rfl) ?_; simp only [List.drop])
      go_ret
      exact ⟨rfl, rfl⟩
    · go_enter Try.func10, Try.ntmps10
      go_wp2_with (refine wpList_skip 4 4 rfl ⟨#[.int .i64 1, undef, .string ⟨#[116, 121, 112, 101]⟩, .int .i64 1, .bool false, .bool false, .int .i64 1, .bool false, .bool false, .agg #[.string ByteArray.empty, .string ⟨#[116, 121, 112, 101]⟩, .string ⟨#[100, 105, 118, 105, 100, 101]⟩, .string ⟨#[105, 110, 100, 101, 120]⟩, .string ⟨#[107, 101, 121]⟩, .string ⟨#[97, 114, 105, 116, 121]⟩, .string ⟨#[100, 101, 101, 112]⟩, .string ⟨#[99, 108, 111, 115, 101, 100]⟩, .string ⟨#[114, 97, 110, 103, 101]⟩, .string ⟨#[102, 111, 114, 109]⟩, .string ⟨#[102, 105, 98, 101, 114, 115]⟩], .int .i64 1, .string ⟨#[116, 121, 112, 101]⟩], []⟩ (by kernel_rfl) ?_; simp only [List.drop])
      go_ret
      exact ⟨rfl, rfl⟩
    · go_enter Try.func10, Try.ntmps10
      go_wp2_with (refine wpList_skip 4 4 rfl ⟨#[.int .i64 2, undef, .string ⟨#[100, 105, 118, 105, 100, 101]⟩, .int .i64 2, .bool false, .bool false, .int .i64 2, .bool false, .bool false, .agg #[.string ByteArray.empty, .string ⟨#[116, 121, 112, 101]⟩, .string ⟨#[100, 105, 118, 105, 100, 101]⟩, .string ⟨#[105, 110, 100, 101, 120]⟩, .string ⟨#[107, 101, 121]⟩, .string ⟨#[97, 114, 105, 116, 121]⟩, .string ⟨#[100, 101, 101, 112]⟩, .string ⟨#[99, 108, 111, 115, 101, 100]⟩, .string ⟨#[114, 97, 110, 103, 101]⟩, .string ⟨#[102, 111, 114, 109]⟩, .string ⟨#[102, 105, 98, 101, 114, 115]⟩], .int .i64 2, .string ⟨#[100, 105, 118, 105, 100, 101]⟩], []⟩ (by kernel_rfl) ?_; simp only [List.drop])
      go_ret
      exact ⟨rfl, rfl⟩
    · go_enter Try.func10, Try.ntmps10
      go_wp2_with (refine wpList_skip 4 4 rfl ⟨#[.int .i64 3, undef, .string ⟨#[105, 110, 100, 101, 120]⟩, .int .i64 3, .bool false, .bool false, .int .i64 3, .bool false, .bool false, .agg #[.string ByteArray.empty, .string ⟨#[116, 121, 112, 101]⟩, .string ⟨#[100, 105, 118, 105, 100, 101]⟩, .string ⟨#[105, 110, 100, 101, 120]⟩, .string ⟨#[107, 101, 121]⟩, .string ⟨#[97, 114, 105, 116, 121]⟩, .string ⟨#[100, 101, 101, 112]⟩, .string ⟨#[99, 108, 111, 115, 101, 100]⟩, .string ⟨#[114, 97, 110, 103, 101]⟩, .string ⟨#[102, 111, 114, 109]⟩, .string ⟨#[102, 105, 98, 101, 114, 115]⟩], .int .i64 3, .string ⟨#[105, 110, 100, 101, 120]⟩], []⟩ (by kernel_rfl) ?_; simp only [List.drop])
      go_ret
      exact ⟨rfl, rfl⟩
    · go_enter Try.func10, Try.ntmps10
      go_wp2_with (refine wpList_skip 4 4 rfl ⟨#[.int .i64 4, undef, .string ⟨#[107, 101, 121]⟩, .int .i64 4, .bool false, .bool false, .int .i64 4, .bool false, .bool false, .agg #[.string ByteArray.empty, .string ⟨#[116, 121, 112, 101]⟩, .string ⟨#[100, 105, 118, 105, 100, 101]⟩, .string ⟨#[105, 110, 100, 101, 120]⟩, .string ⟨#[107, 101, 121]⟩, .string ⟨#[97, 114, 105, 116, 121]⟩, .string ⟨#[100, 101, 101, 112]⟩, .string ⟨#[99, 108, 111, 115, 101, 100]⟩, .string ⟨#[114, 97, 110, 103, 101]⟩, .string ⟨#[102, 111, 114, 109]⟩, .string ⟨#[102, 105, 98, 101, 114, 115]⟩], .int .i64 4, .string ⟨#[107, 101, 121]⟩], []⟩ (by kernel_rfl) ?_; simp only [List.drop])
      go_ret
      exact ⟨rfl, rfl⟩
    · go_enter Try.func10, Try.ntmps10
      go_wp2_with (refine wpList_skip 4 4 rfl ⟨#[.int .i64 5, undef, .string ⟨#[97, 114, 105, 116, 121]⟩, .int .i64 5, .bool false, .bool false, .int .i64 5, .bool false, .bool false, .agg #[.string ByteArray.empty, .string ⟨#[116, 121, 112, 101]⟩, .string ⟨#[100, 105, 118, 105, 100, 101]⟩, .string ⟨#[105, 110, 100, 101, 120]⟩, .string ⟨#[107, 101, 121]⟩, .string ⟨#[97, 114, 105, 116, 121]⟩, .string ⟨#[100, 101, 101, 112]⟩, .string ⟨#[99, 108, 111, 115, 101, 100]⟩, .string ⟨#[114, 97, 110, 103, 101]⟩, .string ⟨#[102, 111, 114, 109]⟩, .string ⟨#[102, 105, 98, 101, 114, 115]⟩], .int .i64 5, .string ⟨#[97, 114, 105, 116, 121]⟩], []⟩ (by kernel_rfl) ?_; simp only [List.drop])
      go_ret
      exact ⟨rfl, rfl⟩
    · go_enter Try.func10, Try.ntmps10
      go_wp2_with (refine wpList_skip 4 4 rfl ⟨#[.int .i64 6, undef, .string ⟨#[100, 101, 101, 112]⟩, .int .i64 6, .bool false, .bool false, .int .i64 6, .bool false, .bool false, .agg #[.string ByteArray.empty, .string ⟨#[116, 121, 112, 101]⟩, .string ⟨#[100, 105, 118, 105, 100, 101]⟩, .string ⟨#[105, 110, 100, 101, 120]⟩, .string ⟨#[107, 101, 121]⟩, .string ⟨#[97, 114, 105, 116, 121]⟩, .string ⟨#[100, 101, 101, 112]⟩, .string ⟨#[99, 108, 111, 115, 101, 100]⟩, .string ⟨#[114, 97, 110, 103, 101]⟩, .string ⟨#[102, 111, 114, 109]⟩, .string ⟨#[102, 105, 98, 101, 114, 115]⟩], .int .i64 6, .string ⟨#[100, 101, 101, 112]⟩], []⟩ (by kernel_rfl) ?_; simp only [List.drop])
      go_ret
      exact ⟨rfl, rfl⟩
    · go_enter Try.func10, Try.ntmps10
      go_wp2_with (refine wpList_skip 4 4 rfl ⟨#[.int .i64 7, undef, .string ⟨#[99, 108, 111, 115, 101, 100]⟩, .int .i64 7, .bool false, .bool false, .int .i64 7, .bool false, .bool false, .agg #[.string ByteArray.empty, .string ⟨#[116, 121, 112, 101]⟩, .string ⟨#[100, 105, 118, 105, 100, 101]⟩, .string ⟨#[105, 110, 100, 101, 120]⟩, .string ⟨#[107, 101, 121]⟩, .string ⟨#[97, 114, 105, 116, 121]⟩, .string ⟨#[100, 101, 101, 112]⟩, .string ⟨#[99, 108, 111, 115, 101, 100]⟩, .string ⟨#[114, 97, 110, 103, 101]⟩, .string ⟨#[102, 111, 114, 109]⟩, .string ⟨#[102, 105, 98, 101, 114, 115]⟩], .int .i64 7, .string ⟨#[99, 108, 111, 115, 101, 100]⟩], []⟩ (by kernel_rfl) ?_; simp only [List.drop])
      go_ret
      exact ⟨rfl, rfl⟩
    · go_enter Try.func10, Try.ntmps10
      go_wp2_with (refine wpList_skip 4 4 rfl ⟨#[.int .i64 8, undef, .string ⟨#[114, 97, 110, 103, 101]⟩, .int .i64 8, .bool false, .bool false, .int .i64 8, .bool false, .bool false, .agg #[.string ByteArray.empty, .string ⟨#[116, 121, 112, 101]⟩, .string ⟨#[100, 105, 118, 105, 100, 101]⟩, .string ⟨#[105, 110, 100, 101, 120]⟩, .string ⟨#[107, 101, 121]⟩, .string ⟨#[97, 114, 105, 116, 121]⟩, .string ⟨#[100, 101, 101, 112]⟩, .string ⟨#[99, 108, 111, 115, 101, 100]⟩, .string ⟨#[114, 97, 110, 103, 101]⟩, .string ⟨#[102, 111, 114, 109]⟩, .string ⟨#[102, 105, 98, 101, 114, 115]⟩], .int .i64 8, .string ⟨#[114, 97, 110, 103, 101]⟩], []⟩ (by kernel_rfl) ?_; simp only [List.drop])
      go_ret
      exact ⟨rfl, rfl⟩
    · go_enter Try.func10, Try.ntmps10
      go_wp2_with (refine wpList_skip 4 4 rfl ⟨#[.int .i64 9, undef, .string ⟨#[102, 111, 114, 109]⟩, .int .i64 9, .bool false, .bool false, .int .i64 9, .bool false, .bool false, .agg #[.string ByteArray.empty, .string ⟨#[116, 121, 112, 101]⟩, .string ⟨#[100, 105, 118, 105, 100, 101]⟩, .string ⟨#[105, 110, 100, 101, 120]⟩, .string ⟨#[107, 101, 121]⟩, .string ⟨#[97, 114, 105, 116, 121]⟩, .string ⟨#[100, 101, 101, 112]⟩, .string ⟨#[99, 108, 111, 115, 101, 100]⟩, .string ⟨#[114, 97, 110, 103, 101]⟩, .string ⟨#[102, 111, 114, 109]⟩, .string ⟨#[102, 105, 98, 101, 114, 115]⟩], .int .i64 9, .string ⟨#[102, 111, 114, 109]⟩], []⟩ (by kernel_rfl) ?_; simp only [List.drop])
      go_ret
      exact ⟨rfl, rfl⟩
    · go_enter Try.func10, Try.ntmps10
      go_wp2_with (refine wpList_skip 4 4 rfl ⟨#[.int .i64 10, undef, .string ⟨#[102, 105, 98, 101, 114, 115]⟩, .int .i64 10, .bool false, .bool false, .int .i64 10, .bool false, .bool false, .agg #[.string ByteArray.empty, .string ⟨#[116, 121, 112, 101]⟩, .string ⟨#[100, 105, 118, 105, 100, 101]⟩, .string ⟨#[105, 110, 100, 101, 120]⟩, .string ⟨#[107, 101, 121]⟩, .string ⟨#[97, 114, 105, 116, 121]⟩, .string ⟨#[100, 101, 101, 112]⟩, .string ⟨#[99, 108, 111, 115, 101, 100]⟩, .string ⟨#[114, 97, 110, 103, 101]⟩, .string ⟨#[102, 111, 114, 109]⟩, .string ⟨#[102, 105, 98, 101, 114, 115]⟩], .int .i64 10, .string ⟨#[102, 105, 98, 101, 114, 115]⟩], []⟩ (by kernel_rfl) ?_; simp only [List.drop])
      go_ret
      exact ⟨rfl, rfl⟩
  · rw [tn_no n (by omega)]
    by_cases h0 : n < 0
    · have h1 : decide (n < 0) = true := by simpa using h0
      clear h h0
      go_enter Try.func10, Try.ntmps10
      go_wp2
      go_ret
      exact ⟨rfl, rfl⟩
    · have h1 : decide (n < 0) = false := by simpa using h0
      have h2 : n > 10 := by omega
      have h3 : n ≥ 11 := by omega
      clear h h0
      go_enter Try.func10, Try.ntmps10
      go_wp2
      go_ret
      exact ⟨rfl, rfl⟩

/-- Is it done by Apply? -/
def apB (n : Int) : Bool := decide ((12 ≤ n ∧ n ≤ 39) ∨ (46 ≤ n ∧ n ≤ 57) ∨ n = 62 ∨ n = 65 ∨ n = 66)
def puB (n : Int) : Bool := decide (n = 25 ∨ n = 26 ∨ n = 29 ∨ n = 30)

set_option maxRecDepth 100000 in
set_option maxHeartbeats 1000000 in
theorem rap_any (w : World) (n : Int) : Calls Try.prog 5 #[.int .i64 n] w fun e w' => e = .returned (.bool (apB n)) ∧ w' = w := by
  obtain ⟨b, hb⟩ : ∃ b, Hid (b = apB n) := ⟨_, rfl⟩
  rw [← unhide hb]
  by_cases h46 : n = 46
  · subst h46
    have HB : Hid (b = true) := hb
    clear hb
    go_enter Try.func5, Try.ntmps5
    go_wp2
    go_ret
    refine ⟨?_, rfl⟩; rw [unhide HB]; first | rfl | (simp; done) | (simp; omega) | (simp_all; done)
  by_cases h47 : n = 47
  · subst h47
    have HB : Hid (b = true) := hb
    clear hb
    go_enter Try.func5, Try.ntmps5
    go_wp2
    go_ret
    refine ⟨?_, rfl⟩; rw [unhide HB]; first | rfl | (simp; done) | (simp; omega) | (simp_all; done)
  by_cases h48 : n = 48
  · subst h48
    have HB : Hid (b = true) := hb
    clear hb
    go_enter Try.func5, Try.ntmps5
    go_wp2
    go_ret
    refine ⟨?_, rfl⟩; rw [unhide HB]; first | rfl | (simp; done) | (simp; omega) | (simp_all; done)
  by_cases h49 : n = 49
  · subst h49
    have HB : Hid (b = true) := hb
    clear hb
    go_enter Try.func5, Try.ntmps5
    go_wp2
    go_ret
    refine ⟨?_, rfl⟩; rw [unhide HB]; first | rfl | (simp; done) | (simp; omega) | (simp_all; done)
  by_cases h50 : n = 50
  · subst h50
    have HB : Hid (b = true) := hb
    clear hb
    go_enter Try.func5, Try.ntmps5
    go_wp2
    go_ret
    refine ⟨?_, rfl⟩; rw [unhide HB]; first | rfl | (simp; done) | (simp; omega) | (simp_all; done)
  by_cases h51 : n = 51
  · subst h51
    have HB : Hid (b = true) := hb
    clear hb
    go_enter Try.func5, Try.ntmps5
    go_wp2
    go_ret
    refine ⟨?_, rfl⟩; rw [unhide HB]; first | rfl | (simp; done) | (simp; omega) | (simp_all; done)
  by_cases h52 : n = 52
  · subst h52
    have HB : Hid (b = true) := hb
    clear hb
    go_enter Try.func5, Try.ntmps5
    go_wp2
    go_ret
    refine ⟨?_, rfl⟩; rw [unhide HB]; first | rfl | (simp; done) | (simp; omega) | (simp_all; done)
  by_cases h53 : n = 53
  · subst h53
    have HB : Hid (b = true) := hb
    clear hb
    go_enter Try.func5, Try.ntmps5
    go_wp2
    go_ret
    refine ⟨?_, rfl⟩; rw [unhide HB]; first | rfl | (simp; done) | (simp; omega) | (simp_all; done)
  by_cases h54 : n = 54
  · subst h54
    have HB : Hid (b = true) := hb
    clear hb
    go_enter Try.func5, Try.ntmps5
    go_wp2
    go_ret
    refine ⟨?_, rfl⟩; rw [unhide HB]; first | rfl | (simp; done) | (simp; omega) | (simp_all; done)
  by_cases h55 : n = 55
  · subst h55
    have HB : Hid (b = true) := hb
    clear hb
    go_enter Try.func5, Try.ntmps5
    go_wp2
    go_ret
    refine ⟨?_, rfl⟩; rw [unhide HB]; first | rfl | (simp; done) | (simp; omega) | (simp_all; done)
  by_cases h56 : n = 56
  · subst h56
    have HB : Hid (b = true) := hb
    clear hb
    go_enter Try.func5, Try.ntmps5
    go_wp2
    go_ret
    refine ⟨?_, rfl⟩; rw [unhide HB]; first | rfl | (simp; done) | (simp; omega) | (simp_all; done)
  by_cases h57 : n = 57
  · subst h57
    have HB : Hid (b = true) := hb
    clear hb
    go_enter Try.func5, Try.ntmps5
    go_wp2
    go_ret
    refine ⟨?_, rfl⟩; rw [unhide HB]; first | rfl | (simp; done) | (simp; omega) | (simp_all; done)
  by_cases h62 : n = 62
  · subst h62
    have HB : Hid (b = true) := hb
    clear hb
    go_enter Try.func5, Try.ntmps5
    go_wp2
    go_ret
    refine ⟨?_, rfl⟩; rw [unhide HB]; first | rfl | (simp; done) | (simp; omega) | (simp_all; done)
  by_cases h65 : n = 65
  · subst h65
    have HB : Hid (b = true) := hb
    clear hb
    go_enter Try.func5, Try.ntmps5
    go_wp2
    go_ret
    refine ⟨?_, rfl⟩; rw [unhide HB]; first | rfl | (simp; done) | (simp; omega) | (simp_all; done)
  by_cases h66 : n = 66
  · subst h66
    have HB : Hid (b = true) := hb
    clear hb
    go_enter Try.func5, Try.ntmps5
    go_wp2
    go_ret
    refine ⟨?_, rfl⟩; rw [unhide HB]; first | rfl | (simp; done) | (simp; omega) | (simp_all; done)
  by_cases l12 : n < 12
  · have HB : Hid (b = false) := by unfold Hid; rw [unhide hb]; unfold apB; simp; omega
    clear hb
    go_enter Try.func5, Try.ntmps5
    go_wp2
    go_ret
    refine ⟨?_, rfl⟩; rw [unhide HB]; first | rfl | (simp; done) | (simp; omega) | (simp_all; done)
  have g12 : 12 ≤ n := by omega
  clear l12
  by_cases l39 : n ≤ 39
  · have HB : Hid (b = true) := by unfold Hid; rw [unhide hb]; unfold apB; simp; omega
    clear hb
    go_enter Try.func5, Try.ntmps5
    go_wp2
    go_ret
    refine ⟨?_, rfl⟩; rw [unhide HB]; first | rfl | (simp; done) | (simp; omega) | (simp_all; done)
  have g39 : 39 < n := by omega
  clear l39 g12
  have HB : Hid (b = false) := by unfold Hid; rw [unhide hb]; unfold apB; simp; omega
  clear hb
  go_enter Try.func5, Try.ntmps5
  go_wp2
  go_ret
  refine ⟨?_, rfl⟩; rw [unhide HB]; first | rfl | (simp; done) | (simp; omega) | (simp_all; done)

set_option maxRecDepth 100000 in
set_option maxHeartbeats 1000000 in
theorem ap_any (w : World) (n : Int) : Calls Try.prog 4 #[.int .i64 n] w fun e w' => e = .returned (.bool (apB n)) ∧ w' = w := by
  obtain ⟨b, hb⟩ : ∃ b, Hid (b = apB n) := ⟨_, rfl⟩
  rw [← unhide hb]
  by_cases h62 : n = 62
  · subst h62
    have HB : Hid (b = true) := hb
    clear hb
    go_enter Try.func4, Try.ntmps4
    go_wp2
    go_ret
    refine ⟨?_, rfl⟩; rw [unhide HB]; first | rfl | (simp; done) | (simp; omega) | (simp_all; done)
  by_cases h65 : n = 65
  · subst h65
    have HB : Hid (b = true) := hb
    clear hb
    go_enter Try.func4, Try.ntmps4
    go_wp2
    go_ret
    refine ⟨?_, rfl⟩; rw [unhide HB]; first | rfl | (simp; done) | (simp; omega) | (simp_all; done)
  by_cases h66 : n = 66
  · subst h66
    have HB : Hid (b = true) := hb
    clear hb
    go_enter Try.func4, Try.ntmps4
    go_wp2
    go_ret
    refine ⟨?_, rfl⟩; rw [unhide HB]; first | rfl | (simp; done) | (simp; omega) | (simp_all; done)
  by_cases l12 : n < 12
  · have HB : Hid (b = false) := by unfold Hid; rw [unhide hb]; unfold apB; simp; omega
    clear hb
    go_enter Try.func4, Try.ntmps4
    go_wp2
    go_ret
    refine ⟨?_, rfl⟩; rw [unhide HB]; first | rfl | (simp; done) | (simp; omega) | (simp_all; done)
  have g12 : 12 ≤ n := by omega
  clear l12
  by_cases l39 : n ≤ 39
  · have HB : Hid (b = true) := by unfold Hid; rw [unhide hb]; unfold apB; simp; omega
    clear hb
    go_enter Try.func4, Try.ntmps4
    go_wp2
    go_ret
    refine ⟨?_, rfl⟩; rw [unhide HB]; first | rfl | (simp; done) | (simp; omega) | (simp_all; done)
  have g39 : 39 < n := by omega
  clear l39 g12
  by_cases l46 : n < 46
  · have HB : Hid (b = false) := by unfold Hid; rw [unhide hb]; unfold apB; simp; omega
    clear hb
    go_enter Try.func4, Try.ntmps4
    go_wp2
    go_ret
    refine ⟨?_, rfl⟩; rw [unhide HB]; first | rfl | (simp; done) | (simp; omega) | (simp_all; done)
  have g46 : 46 ≤ n := by omega
  clear l46
  by_cases l57 : n ≤ 57
  · have HB : Hid (b = true) := by unfold Hid; rw [unhide hb]; unfold apB; simp; omega
    clear hb
    go_enter Try.func4, Try.ntmps4
    go_wp2
    go_ret
    refine ⟨?_, rfl⟩; rw [unhide HB]; first | rfl | (simp; done) | (simp; omega) | (simp_all; done)
  have g57 : 57 < n := by omega
  clear l57 g46
  have HB : Hid (b = false) := by unfold Hid; rw [unhide hb]; unfold apB; simp; omega
  clear hb
  go_enter Try.func4, Try.ntmps4
  go_wp2
  go_ret
  refine ⟨?_, rfl⟩; rw [unhide HB]; first | rfl | (simp; done) | (simp; omega) | (simp_all; done)

set_option maxRecDepth 100000 in
set_option maxHeartbeats 1000000 in
theorem pu_any (w : World) (n : Int) : Calls Try.prog 6 #[.int .i64 n] w fun e w' => e = .returned (.bool (puB n)) ∧ w' = w := by
  obtain ⟨b, hb⟩ : ∃ b, Hid (b = puB n) := ⟨_, rfl⟩
  rw [← unhide hb]
  by_cases h25 : n = 25
  · subst h25
    have HB : Hid (b = true) := hb
    clear hb
    go_enter Try.func6, Try.ntmps6
    go_wp2
    go_ret
    refine ⟨?_, rfl⟩; rw [unhide HB]; first | rfl | (simp; done) | (simp; omega) | (simp_all; done)
  by_cases h26 : n = 26
  · subst h26
    have HB : Hid (b = true) := hb
    clear hb
    go_enter Try.func6, Try.ntmps6
    go_wp2
    go_ret
    refine ⟨?_, rfl⟩; rw [unhide HB]; first | rfl | (simp; done) | (simp; omega) | (simp_all; done)
  by_cases h29 : n = 29
  · subst h29
    have HB : Hid (b = true) := hb
    clear hb
    go_enter Try.func6, Try.ntmps6
    go_wp2
    go_ret
    refine ⟨?_, rfl⟩; rw [unhide HB]; first | rfl | (simp; done) | (simp; omega) | (simp_all; done)
  by_cases h30 : n = 30
  · subst h30
    have HB : Hid (b = true) := hb
    clear hb
    go_enter Try.func6, Try.ntmps6
    go_wp2
    go_ret
    refine ⟨?_, rfl⟩; rw [unhide HB]; first | rfl | (simp; done) | (simp; omega) | (simp_all; done)
  have HB : Hid (b = false) := by unfold Hid; rw [unhide hb]; unfold puB; simp; omega
  clear hb
  go_enter Try.func6, Try.ntmps6
  go_wp2
  go_ret
  refine ⟨?_, rfl⟩; rw [unhide HB]; first | rfl | (simp; done) | (simp; omega) | (simp_all; done)

set_option maxRecDepth 100000 in
set_option maxHeartbeats 1000000 in
theorem rpu_any (w : World) (n : Int) : Calls Try.prog 7 #[.int .i64 n] w fun e w' => e = .returned (.bool (puB n)) ∧ w' = w := by
  obtain ⟨b, hb⟩ : ∃ b, Hid (b = puB n) := ⟨_, rfl⟩
  rw [← unhide hb]
  by_cases h25 : n = 25
  · subst h25
    have HB : Hid (b = true) := hb
    clear hb
    go_enter Try.func7, Try.ntmps7
    go_wp2
    go_ret
    refine ⟨?_, rfl⟩; rw [unhide HB]; first | rfl | (simp; done) | (simp; omega) | (simp_all; done)
  by_cases h26 : n = 26
  · subst h26
    have HB : Hid (b = true) := hb
    clear hb
    go_enter Try.func7, Try.ntmps7
    go_wp2
    go_ret
    refine ⟨?_, rfl⟩; rw [unhide HB]; first | rfl | (simp; done) | (simp; omega) | (simp_all; done)
  by_cases h29 : n = 29
  · subst h29
    have HB : Hid (b = true) := hb
    clear hb
    go_enter Try.func7, Try.ntmps7
    go_wp2
    go_ret
    refine ⟨?_, rfl⟩; rw [unhide HB]; first | rfl | (simp; done) | (simp; omega) | (simp_all; done)
  by_cases h30 : n = 30
  · subst h30
    have HB : Hid (b = true) := hb
    clear hb
    go_enter Try.func7, Try.ntmps7
    go_wp2
    go_ret
    refine ⟨?_, rfl⟩; rw [unhide HB]; first | rfl | (simp; done) | (simp; omega) | (simp_all; done)
  have HB : Hid (b = false) := by unfold Hid; rw [unhide hb]; unfold puB; simp; omega
  clear hb
  go_enter Try.func7, Try.ntmps7
  go_wp2
  go_ret
  refine ⟨?_, rfl⟩; rw [unhide HB]; first | rfl | (simp; done) | (simp; omega) | (simp_all; done)

theorem beq_bool (b : Bool) (w : World) : (binOp .eql 4 (.bool b) (.bool b)).run Try.prog w = .ok (.bool true) w := by cases b <;> kernel_rfl

set_option maxRecDepth 100000 in
set_option maxHeartbeats 2000000 in
theorem opsKindsLaw (n : Int) (w : World) (hl : -9223372036854775808 ≤ n) (hu : n ≤ 9223372036854775807) : Calls Try.prog 3 #[.int .i64 n] w fun e w' => e = .returned (.bool true) ∧ Below w.heap.size w w' := by
  have H1 := hide (fun w => ap_any w n)
  have H2 := hide (fun w => rap_any w n)
  have H3 := hide (fun w => pu_any w n)
  have H4 := hide (fun w => rpu_any w n)
  have H5 := hide (fun w => kn_any w n)
  have H6 := hide (fun w => rkn_any w n ⟨hl, hu⟩)
  have H7 := hide (fun w => tn_any w n)
  have H8 := hide (fun w => rtn_any w n ⟨hl, hu⟩)
  clear hl hu
  generalize apB n = b1 at *
  generalize puB n = b2 at *
  generalize kn n = s1 at *
  generalize tn n = s2 at *
  have e4 := beq_bool
  go_enter Try.func3, Try.ntmps3
  go_wp2_with fail
  refine (unhide H1 _).mono ?_
  rintro e w1 ⟨rfl, rfl⟩
  go_wp2_with fail
  refine (unhide H2 _).mono ?_
  rintro e w2 ⟨rfl, rfl⟩
  go_wp2_with fail
  refine (unhide H3 _).mono ?_
  rintro e w3 ⟨rfl, rfl⟩
  go_wp2_with fail
  refine (unhide H4 _).mono ?_
  rintro e w4 ⟨rfl, rfl⟩
  go_wp2_with fail
  refine (unhide H5 _).mono ?_
  rintro e w5 ⟨rfl, rfl⟩
  go_wp2_with fail
  refine (unhide H6 _).mono ?_
  rintro e w6 ⟨rfl, rfl⟩
  go_wp2_with fail
  refine (unhide H7 _).mono ?_
  rintro e w7 ⟨rfl, rfl⟩
  go_wp2_with fail
  refine (unhide H8 _).mono ?_
  rintro e w8 ⟨rfl, rfl⟩
  go_wp2_with fail
  go_ret
  exact ⟨rfl, Below.refl _ _⟩
end Go.Proofs.Ytijlckhknfhkhaa
