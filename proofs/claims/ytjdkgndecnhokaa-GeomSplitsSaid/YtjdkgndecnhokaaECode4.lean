/- Contract of Overlap of geom as it landed. -/
import Derived.Test.YtjdkgndecnhokaaECode3
namespace Go.Proofs.Ytjdkgndecnhokaa.Geom
open Go.RowKit
open Go.Proofs.Ytjdkgndecnhokaa.Wire
set_option linter.unusedVariables false

set_option maxHeartbeats 8000000 in
theorem Overlap_any (x0 y0 x1 y1 u0 v0 u1 v1 : Int) (w : World) :
    Calls Try.prog 26 #[.agg #[.int .i64 x0, .int .i64 y0, .int .i64 x1, .int .i64 y1], .agg #[.int .i64 u0, .int .i64 v0, .int .i64 u1, .int .i64 v1]] w fun e w' => e = .returned (.bool (ovl x0 y0 x1 y1 u0 v0 u1 v1)) ∧ Bl w w' := by
  go_enter Try.func26, Try.ntmps26
  go_wp2_with fail
  all_goals
    go_ret
    refine ⟨retB ?_, ((Bl.refl w).alloc _).alloc _⟩
    unfold ovl
    first
    | exact decide_eq_decide.2 (by omega)
    | exact (decide_eq_false (by omega)).symm
    | exact (decide_eq_true (by omega)).symm
end Go.Proofs.Ytjdkgndecnhokaa.Geom
