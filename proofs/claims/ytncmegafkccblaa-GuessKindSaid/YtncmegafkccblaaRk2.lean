/-
  Operations on numbers of one kind.
-/
import Derived.Test.YtncmegafkccblaaRk
namespace Go.Proofs.Ytncmegafkccblaa
open Go.RowKit
set_option linter.unusedVariables false
set_option linter.unusedSimpArgs false
set_option maxRecDepth 100000 in
set_option maxHeartbeats 800000 in
theorem rk_2_1 {w : World} {g o c : Nat} {op : Int} (hop : op = 17 ∨ op = 21) (h : Ar w g o 1 2) : Calls Try.prog 18 #[.agg #[.int .i64 op, .int .i64 0], .slice (some ⟨g, o, none⟩) 1 c] w fun e w' => VN w e w' := by
  rcases hop with rfl | rfl
  · exact reckon1 (f := 38) (fun args w => by go_simp) h (by decide) (fun W hW => trap2 (h.go hW) (by omega) (by decide) (by decide) (by decide) (by decide)) (fun W => of17 W) (fun W m => m38_2 W m)
  · exact reckon1 (f := 39) (fun args w => by go_simp) h (by decide) (fun W hW => trap2 (h.go hW) (by omega) (by decide) (by decide) (by decide) (by decide)) (fun W => of21 W) (fun W m => m39_2 W m)
set_option maxRecDepth 100000 in
set_option maxHeartbeats 800000 in
theorem rk_2_2 {w : World} {g o c : Nat} {op : Int} (hop : op = 12 ∨ op = 13 ∨ op = 14 ∨ op = 18 ∨ op = 19 ∨ op = 20 ∨ op = 66 ∨ op = 27 ∨ op = 28) (h : Ar w g o 2 2) : Calls Try.prog 18 #[.agg #[.int .i64 op, .int .i64 0], .slice (some ⟨g, o, none⟩) 2 c] w fun e w' => VN w e w' := by
  rcases hop with rfl | rfl | rfl | rfl | rfl | rfl | rfl | rfl | rfl
  · exact reckon2 (f := 43) (fun args w => by go_simp) h (by decide) (fun W hW => trap2 (h.go hW) (by omega) (by decide) (by decide) (by decide) (by decide)) (fun W => of12 W) (fun W m m2 => m43_2 W m m2)
  · exact reckon2 (f := 44) (fun args w => by go_simp) h (by decide) (fun W hW => trap2 (h.go hW) (by omega) (by decide) (by decide) (by decide) (by decide)) (fun W => of13 W) (fun W m m2 => m44_2 W m m2)
  · exact reckon2 (f := 45) (fun args w => by go_simp) h (by decide) (fun W hW => trap2 (h.go hW) (by omega) (by decide) (by decide) (by decide) (by decide)) (fun W => of14 W) (fun W m m2 => m45_2 W m m2)
  · exact reckon2 (f := 48) (fun args w => by go_simp) h (by decide) (fun W hW => trap2 (h.go hW) (by omega) (by decide) (by decide) (by decide) (by decide)) (fun W => of18 W) (fun W m m2 => m48_2 W m m2)
  · exact reckon2 (f := 49) (fun args w => by go_simp) h (by decide) (fun W hW => trap2 (h.go hW) (by omega) (by decide) (by decide) (by decide) (by decide)) (fun W => of19 W) (fun W m m2 => m49_2 W m m2)
  · exact reckon2 (f := 50) (fun args w => by go_simp) h (by decide) (fun W hW => trap2 (h.go hW) (by omega) (by decide) (by decide) (by decide) (by decide)) (fun W => of20 W) (fun W m m2 => m50_2 W m m2)
  · exact reckon2 (f := 51) (fun args w => by go_simp) h (by decide) (fun W hW => trap2 (h.go hW) (by omega) (by decide) (by decide) (by decide) (by decide)) (fun W => of66 W) (fun W m m2 => m51_2 W m m2)
  · exact reckon2 (f := 54) (fun args w => by go_simp) h (by decide) (fun W hW => trap2 (h.go hW) (by omega) (by decide) (by decide) (by decide) (by decide)) (fun W => of27 W) (fun W m m2 => m54_2 W m m2)
  · exact reckon2 (f := 55) (fun args w => by go_simp) h (by decide) (fun W hW => trap2 (h.go hW) (by omega) (by decide) (by decide) (by decide) (by decide)) (fun W => of28 W) (fun W m m2 => m55_2 W m m2)
set_option maxRecDepth 100000 in
set_option maxHeartbeats 800000 in
theorem rk_3_1 {w : World} {g o c : Nat} {op : Int} (hop : op = 17 ∨ op = 37 ∨ op = 36 ∨ op = 33) (h : Ar w g o 1 3) : Calls Try.prog 18 #[.agg #[.int .i64 op, .int .i64 0], .slice (some ⟨g, o, none⟩) 1 c] w fun e w' => VN w e w' := by
  rcases hop with rfl | rfl | rfl | rfl
  · exact reckon1 (f := 38) (fun args w => by go_simp) h (by decide) (fun W hW => trap3 (h.go hW) (by omega) (by decide) (by decide) (by decide) (by decide) (by decide)) (fun W => of17 W) (fun W m => m38_3 W m)
  · exact reckon1 (f := 41) (fun args w => by go_simp) h (by decide) (fun W hW => trap3 (h.go hW) (by omega) (by decide) (by decide) (by decide) (by decide) (by decide)) (fun W => of37 W) (fun W m => m41_3 W m)
  · exact reckon1 (f := 40) (fun args w => by go_simp) h (by decide) (fun W hW => trap3 (h.go hW) (by omega) (by decide) (by decide) (by decide) (by decide) (by decide)) (fun W => of36 W) (fun W m => m40_3 W m)
  · exact reckon1 (f := 42) (fun args w => by go_simp) h (by decide) (fun W hW => trap3 (h.go hW) (by omega) (by decide) (by decide) (by decide) (by decide) (by decide)) (fun W => of33 W) (fun W m => m42_3 W m)
set_option maxRecDepth 100000 in
set_option maxHeartbeats 800000 in
theorem rk_3_2 {w : World} {g o c : Nat} {op : Int} (hop : op = 12 ∨ op = 13 ∨ op = 14 ∨ op = 15 ∨ op = 27 ∨ op = 28) (h : Ar w g o 2 3) : Calls Try.prog 18 #[.agg #[.int .i64 op, .int .i64 0], .slice (some ⟨g, o, none⟩) 2 c] w fun e w' => VN w e w' := by
  rcases hop with rfl | rfl | rfl | rfl | rfl | rfl
  · exact reckon2 (f := 43) (fun args w => by go_simp) h (by decide) (fun W hW => trap3 (h.go hW) (by omega) (by decide) (by decide) (by decide) (by decide) (by decide)) (fun W => of12 W) (fun W m m2 => m43_3 W m m2)
  · exact reckon2 (f := 44) (fun args w => by go_simp) h (by decide) (fun W hW => trap3 (h.go hW) (by omega) (by decide) (by decide) (by decide) (by decide) (by decide)) (fun W => of13 W) (fun W m m2 => m44_3 W m m2)
  · exact reckon2 (f := 45) (fun args w => by go_simp) h (by decide) (fun W hW => trap3 (h.go hW) (by omega) (by decide) (by decide) (by decide) (by decide) (by decide)) (fun W => of14 W) (fun W m m2 => m45_3 W m m2)
  · exact reckon2 (f := 46) (fun args w => by go_simp) h (by decide) (fun W hW => trapD (h.go hW)) (fun W => of15 W) (fun W m m2 => m46_3 W m m2)
  · exact reckon2 (f := 54) (fun args w => by go_simp) h (by decide) (fun W hW => trap3 (h.go hW) (by omega) (by decide) (by decide) (by decide) (by decide) (by decide)) (fun W => of27 W) (fun W m m2 => m54_3 W m m2)
  · exact reckon2 (f := 55) (fun args w => by go_simp) h (by decide) (fun W hW => trap3 (h.go hW) (by omega) (by decide) (by decide) (by decide) (by decide) (by decide)) (fun W => of28 W) (fun W m m2 => m55_3 W m m2)
end Go.Proofs.Ytncmegafkccblaa
