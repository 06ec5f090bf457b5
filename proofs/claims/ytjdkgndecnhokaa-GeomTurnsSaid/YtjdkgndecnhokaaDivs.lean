/- Contracts of Floor, Ceil and Round of layer 1 (num) and of its reference. -/
import Derived.Test.YtjdkgndecnhokaaBase
namespace Go.Proofs.Ytjdkgndecnhokaa.Num
open Go.RowKit
set_option linter.unusedVariables false

/-- the quotient and the error of a division with result x -/
def qv (b x : Int) : Int := if b = 0 then 0 else rv x
def qe (b x : Int) : Int := if b = 0 then 21 else re x
theorem qv_zero (x : Int) : qv 0 x = 0 := rfl
theorem qe_zero (x : Int) : qe 0 x = 21 := rfl
theorem qv_ok {b x : Int} (hb : b ≠ 0) (h : okI x) : qv b x = x := by rw [qv, if_neg hb, rv_ok h]
theorem qe_ok {b x : Int} (hb : b ≠ 0) (h : okI x) : qe b x = 0 := by rw [qe, if_neg hb, re_ok h]

theorem ret3 {i j k : IntKind} {a b c d x y : Int} (h : a = b) (g : c = d) (l : x = y) : Ending.returned (.tuple #[.int i a, .int j c, .int k x]) = .returned (.tuple #[.int i b, .int j d, .int k y]) := by rw [h, g, l]
theorem w64 {x : Int} (h : okI x) : wrap64 x = x := by unfold okI at h; unfold wrap64; omega
theorem i64w {x : Int} (h : okI x) : IntKind.i64.wrap x = x := by unfold okI at h; rw [IntKind.wrap_i64]; omega

end Go.Proofs.Ytjdkgndecnhokaa.Num
