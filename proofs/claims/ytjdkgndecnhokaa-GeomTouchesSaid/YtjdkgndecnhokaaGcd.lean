/- Contracts of Gcd (layer 1 and its reference) and of Sqrt. -/
import Derived.Test.YtjdkgndecnhokaaBase
import Derived.Test.YtjdkgndecnhokaaSqrtPlain
namespace Go.Proofs.Ytjdkgndecnhokaa.Num
open Go.RowKit
set_option linter.unusedVariables false

theorem gcd_abs (a b : Int) : Int.gcd (a.natAbs : Int) (b.natAbs : Int) = Int.gcd a b := rfl
theorem gcd_le (a b : Int) (ha : okI a) (hb : okI b) : (Int.gcd a b : Int) ≤ 18446744073709551615 := by
  unfold okI at ha hb
  by_cases h : a = 0
  · subst h
    rw [Int.gcd_zero_left]; omega
  · have : Int.gcd a b ≤ a.natAbs := Nat.gcd_le_left _ (by omega)
    omega

set_option maxHeartbeats 400000 in
theorem Gcd_any (a b : Int) (w : World) (ha : okI a) (hb : okI b) :
    Calls Try.prog 49 #[.int .i64 a, .int .i64 b] w fun e w' => e = .returned (.int .i64 (rv (Int.gcd a b : Int))) ∧ Q w w' := by
  have hl := gcd_le a b ha hb
  have hg := hid (gcd_abs a b)
  unfold okI at ha hb
  go_enter Try.func49, Try.ntmps49
  go_wp2_with fail
  refine (magnitude_any a _ ha.1 ha.2).mono ?_
  rintro e w' ⟨rfl, rfl⟩
  go_wp2_with fail
  refine (magnitude_any b _ hb.1 hb.2).mono ?_
  rintro e w' ⟨rfl, rfl⟩
  go_wp2_with fail
  refine (gcd_any _ _ _ (by omega) (by omega) (by omega) (by omega)).mono ?_
  rintro e w' ⟨rfl, n, rfl⟩
  rw [hg.out]
  go_wp2_with fail
  refine (signed_any _ false _ (by omega) (by omega)).mono ?_
  rintro e w' ⟨rfl, rfl⟩
  go_wp2_with fail
  go_ret
  exact ⟨rfl, Q.drewN (Q.refl _) _⟩

def SqPost (n : Int) (w : World) (e : Ending) (w' : World) : Prop := ∃ r : Int, e = .returned (.int .i64 r) ∧ (0 ≤ r ∧ (n < 0 → r = 0) ∧ (0 ≤ n → r * r ≤ n ∧ n < (r + 1) * (r + 1))) ∧ Q w w'
end Go.Proofs.Ytjdkgndecnhokaa.Num
