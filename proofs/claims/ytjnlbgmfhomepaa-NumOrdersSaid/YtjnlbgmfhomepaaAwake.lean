/- The examples of the chapter, which each statement of layer 1 asks: awake returns true. -/
import Derived.Test.YtjnlbgmfhomepaaDivs
import Derived.Test.YtjnlbgmfhomepaaMul
import Derived.Test.YtjnlbgmfhomepaaGcd
import Derived.Test.YtjnlbgmfhomepaaMake
import Derived.Test.YtjnlbgmfhomepaaCmp2
namespace Go.Proofs.Ytjnlbgmfhomepaa.Num
open Go.RowKit
set_option linter.unusedVariables false

theorem aw1 (w : World) : Calls Try.prog 11 #[.int .i64 (-7), .int .i64 2] w fun e w' => e = .returned (.tuple #[.int .i64 (-4), .int .i64 0]) ∧ Q w w' := by
  have h := floor_any (-7) 2 w (by decide) (by decide)
  rwa [show qv 2 (fl (-7) 2) = -4 by decide, show qe 2 (fl (-7) 2) = 0 by decide] at h
theorem aw2 (w : World) : Calls Try.prog 12 #[.int .i64 (-7), .int .i64 2] w fun e w' => e = .returned (.tuple #[.int .i64 (-3), .int .i64 0]) ∧ Q w w' := by
  have h := ceil_any (-7) 2 w (by decide) (by decide)
  rwa [show qv 2 (cl (-7) 2) = -3 by decide, show qe 2 (cl (-7) 2) = 0 by decide] at h
theorem aw3 (w : World) : Calls Try.prog 13 #[.int .i64 (-5), .int .i64 2] w fun e w' => e = .returned (.tuple #[.int .i64 (-2), .int .i64 0]) ∧ Q w w' := by
  have h := round_any (-5) 2 w (by decide) (by decide)
  rwa [show qv 2 (rd (-5) 2) = -2 by decide, show qe 2 (rd (-5) 2) = 0 by decide] at h
theorem aw4 (w : World) : Calls Try.prog 20 #[.int .i64 1099511627776, .int .i64 1099511627776, .int .i64 1048576] w fun e w' => e = .returned (.tuple #[.int .i64 1152921504606846976, .int .i64 0]) ∧ Q w w' := by
  have h := muldiv_any 1099511627776 1099511627776 1048576 w (by decide) (by decide) (by decide)
  rwa [show qv 1048576 (fl (1099511627776 * 1099511627776) 1048576) = 1152921504606846976 by decide +kernel, show qe 1048576 (fl (1099511627776 * 1099511627776) 1048576) = 0 by decide +kernel] at h
theorem aw5 (w : World) : Calls Try.prog 23 #[.int .i64 6, .int .i64 (-4)] w fun e w' => e = .returned (.tuple #[.agg #[.int .i64 (-3), .int .i64 2], .int .i64 0]) ∧ Bl w w' := by
  have h := make_any 6 (-4) w (by decide) (by decide)
  rwa [show mkN 6 (-4) = -3 by decide +kernel, show mkD 6 (-4) = 2 by decide +kernel, show mkE 6 (-4) = 0 by decide +kernel] at h
theorem aw6 (w : World) : Calls Try.prog 11 #[.int .i64 1, .int .i64 0] w fun e w' => e = .returned (.tuple #[.int .i64 0, .int .i64 21]) ∧ Q w w' := by
  have h := floor_any 1 0 w (by decide) (by decide)
  rwa [qv_zero, qe_zero] at h
theorem aw7 (w : World) : Calls Try.prog 22 #[.int .i64 24] w fun e w' => e = .returned (.int .i64 4) ∧ Q w w' := by
  refine (sqrt_any 24 w (by decide)).mono fun e w' ⟨r, he, ⟨h0, _, h1⟩, hq⟩ => ⟨?_, hq⟩
  obtain ⟨h2, h3⟩ := h1 (by decide)
  have : r < 5 := by
    by_cases h : r < 5
    · exact h
    · have := Int.mul_le_mul (a := 5) (b := 5) (c := r) (d := r) (by omega) (by omega) (by omega) h0
      omega
  have : 4 ≤ r := by
    by_cases h : 4 ≤ r
    · exact h
    · have := Int.mul_le_mul (a := r + 1) (b := r + 1) (c := 4) (d := 4) (by omega) (by omega) (by omega) (by omega)
      omega
  rw [he, show r = 4 by omega]
theorem aw8 (w : World) : Calls Try.prog 18 #[.int .i64 (-12), .int .i64 18] w fun e w' => e = .returned (.int .i64 6) ∧ Q w w' := by
  have h := Gcd_any (-12) 18 w (by decide) (by decide)
  rwa [show rv (Int.gcd (-12) 18 : Int) = 6 by decide +kernel] at h
theorem aw9 (w : World) : Calls Try.prog 26 #[.agg #[.int .i64 1, .int .i64 2], .agg #[.int .i64 2, .int .i64 3]] w fun e w' => e = .returned (.int .i64 (-1)) ∧ Bl w w' := by
  have h := cmp_any 1 2 2 3 w (by decide) (by decide) (by decide) (by decide)
  rwa [show cs 1 2 2 3 = -1 by decide +kernel] at h

set_option maxRecDepth 100000 in
set_option maxHeartbeats 2000000 in
theorem awake_any (w : World) : Calls Try.prog 17 #[] w fun e w' => e = .returned (.bool true) ∧ Bl w w' := by
  go_enter Try.func17, Try.ntmps17
  go_wp2_with fail
  refine (aw1 _).mono ?_
  rintro e w' ⟨rfl, n1, rfl⟩
  go_wp2_with fail
  refine (aw2 _).mono ?_
  rintro e w' ⟨rfl, n2, rfl⟩
  go_wp2_with fail
  refine (aw3 _).mono ?_
  rintro e w' ⟨rfl, n3, rfl⟩
  go_wp2_with fail
  refine (aw4 _).mono ?_
  rintro e w' ⟨rfl, n4, rfl⟩
  go_wp2_with fail
  refine (aw5 _).mono ?_
  rintro e w1 ⟨rfl, hb1⟩
  go_wp2_with fail
  refine (aw6 _).mono ?_
  rintro e w' ⟨rfl, n6, rfl⟩
  go_wp2_with fail
  refine (aw7 _).mono ?_
  rintro e w' ⟨rfl, n7, rfl⟩
  go_wp2_with fail
  refine (aw8 _).mono ?_
  rintro e w' ⟨rfl, n8, rfl⟩
  go_wp2_with fail
  refine (aw9 _).mono ?_
  rintro e w2 ⟨rfl, hb2⟩
  go_wp2_with fail
  go_ret
  exact ⟨rfl, Bl.trans (Bl.drewN (Bl.alloc (Bl.trans (Bl.drewN (Bl.refl _) _) hb1) _) _) hb2⟩
end Go.Proofs.Ytjnlbgmfhomepaa.Num
