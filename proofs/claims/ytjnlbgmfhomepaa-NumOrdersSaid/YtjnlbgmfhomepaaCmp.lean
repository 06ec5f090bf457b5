/- Contracts of valid and Cmp of layer 1 (num), and of what they call. -/
import Derived.Test.YtjnlbgmfhomepaaMake
import Derived.Test.YtjnlbgmfhomepaaBits
namespace Go.Proofs.Ytjnlbgmfhomepaa.Num
open Go.RowKit
set_option linter.unusedVariables false

/-- is a / b a valid fraction? -/
def vd (a b : Int) : Bool := decide (0 < b) && (Int.gcd a b == 1)
theorem vd_iff (a b : Int) : vd a b = true ↔ 0 < b ∧ Int.gcd a b = 1 := by unfold vd; simp

set_option maxRecDepth 100000 in
set_option maxHeartbeats 400000 in
theorem valid_any (a b : Int) (w : World) (ha : okI a) (hb : okI b) :
    Calls Try.prog 39 #[.agg #[.int .i64 a, .int .i64 b]] w fun e w' => e = .returned (.bool (vd a b)) ∧ Bl w w' := by
  by_cases h : 0 < b
  · have hg : (Int.gcd a b : Int) ≤ b := by
      have : Int.gcd a b ≤ b.natAbs := Nat.gcd_le_right _ (by omega)
      omega
    have hr : rv (Int.gcd a b : Int) = (Int.gcd a b : Int) := rv_ok (by unfold okI at hb ⊢; omega)
    have hc := hid (fun w => Gcd_any a b w ha hb)
    rw [hr] at hc
    have hv : vd a b = ((Int.gcd a b : Int) == 1) := by
      unfold vd
      rw [decide_eq_true h, Bool.true_and]
      rw [Bool.eq_iff_iff, beq_iff_eq, beq_iff_eq]; omega
    have hv' := hid hv
    clear hr hv
    go_enter Try.func39, Try.ntmps39
    go_wp2_with fail
    refine (hc.out _).mono ?_
    rintro e w' ⟨rfl, n, rfl⟩
    go_wp2_with fail
    go_ret
    exact ⟨retB hv'.out.symm, Bl.drewN (Bl.alloc (Bl.refl _) _) _⟩
  · have hv := hid (show vd a b = false by unfold vd; rw [decide_eq_false h, Bool.false_and])
    go_enter Try.func39, Try.ntmps39
    go_wp2_with fail
    go_ret
    exact ⟨retB hv.out.symm, Bl.alloc (Bl.refl _) _⟩

set_option maxRecDepth 100000 in
set_option maxHeartbeats 400000 in
theorem rvalid_any (a b : Int) (w : World) (ha : okI a) (hb : okI b) :
    Calls Try.prog 25 #[.agg #[.int .i64 a, .int .i64 b]] w fun e w' => e = .returned (.bool (vd a b)) ∧ Bl w w' := by
  by_cases h : 0 < b
  · have hgl := gcd_le a b ha hb
    have hv : vd a b = ((Int.gcd a b : Int) == 1) := by
      unfold vd
      rw [decide_eq_true h, Bool.true_and]
      rw [Bool.eq_iff_iff, beq_iff_eq, beq_iff_eq]; omega
    have hv' := hid hv
    clear hv
    unfold okI at ha hb
    have hd : decide (0 < b) = true := decide_eq_true h
    go_enter Try.func25, Try.ntmps25
    go_wp2_with fail
    go_quiet ((first | (go_at_call 32; exact quiet_same ⟨_, rfl⟩ (size_any _ _ (by omega) (by omega))) | (go_at_call 35; exact quiet_q ⟨_, rfl⟩ (common_any _ _ _ (by omega) (by omega) (by omega) (by omega)))))
    go_wp2_with fail
    go_ret
    exact ⟨retB hv'.out.symm, Bl.drewN (Bl.alloc (Bl.refl _) _) _⟩
  · have hv := hid (show vd a b = false by unfold vd; rw [decide_eq_false h, Bool.false_and])
    have hd : decide (0 < b) = false := decide_eq_false h
    go_enter Try.func25, Try.ntmps25
    go_wp2_with fail
    go_quiet (fail)
    go_wp2_with fail
    go_ret
    exact ⟨retB hv.out.symm, Bl.drewN (Bl.alloc (Bl.refl _) _) _⟩

/-- -1, 0 or 1 -/
def sn (x y : Int) : Int := if x < y then -1 else if y < x then 1 else 0
theorem sn_lt {x y : Int} (h : x < y) : sn x y = -1 := if_pos h
theorem sn_gt {x y : Int} (h : y < x) : sn x y = 1 := by unfold sn; rw [if_neg (by omega), if_pos h]
theorem sn_eq {x y : Int} (h : x = y) : sn x y = 0 := by unfold sn; rw [if_neg (by omega), if_neg (by omega)]

set_option maxHeartbeats 400000 in
theorem compare_i64 (x y : Int) (w : World) :
    Calls Try.prog 40 #[.int .i64 x, .int .i64 y] w fun e w' => e = .returned (.int .i64 (sn x y)) ∧ Q w w' := by
  rcases Int.lt_trichotomy x y with h | h | h
  · have hs := hid (sn_lt h)
    go_enter Try.func40, Try.ntmps40
    go_wp2
    go_ret
    exact ⟨ret1 (by rw [hs.out]), Q.refl _⟩
  · have hs := hid (sn_eq h)
    subst h
    go_enter Try.func40, Try.ntmps40
    go_wp2
    go_ret
    exact ⟨ret1 (by rw [hs.out]), Q.refl _⟩
  · have hs := hid (sn_gt h)
    go_enter Try.func40, Try.ntmps40
    go_wp2
    go_ret
    exact ⟨ret1 (by rw [hs.out]), Q.refl _⟩

set_option maxHeartbeats 400000 in
theorem compare_u64 (x y : Int) (w : World) :
    Calls Try.prog 45 #[.int .u64 x, .int .u64 y] w fun e w' => e = .returned (.int .i64 (sn x y)) ∧ Q w w' := by
  rcases Int.lt_trichotomy x y with h | h | h
  · have hs := hid (sn_lt h)
    go_enter Try.func45, Try.ntmps45
    go_wp2
    go_ret
    exact ⟨ret1 (by rw [hs.out]), Q.refl _⟩
  · have hs := hid (sn_eq h)
    subst h
    go_enter Try.func45, Try.ntmps45
    go_wp2
    go_ret
    exact ⟨ret1 (by rw [hs.out]), Q.refl _⟩
  · have hs := hid (sn_gt h)
    go_enter Try.func45, Try.ntmps45
    go_wp2
    go_ret
    exact ⟨ret1 (by rw [hs.out]), Q.refl _⟩

set_option maxHeartbeats 400000 in
theorem sign_any (x y : Int) (w : World) :
    Calls Try.prog 42 #[.int .i64 x, .int .i64 y] w fun e w' => e = .returned (.int .i64 (sn x y)) ∧ w = w' := by
  rcases Int.lt_trichotomy x y with h | h | h
  · have hs := hid (sn_lt h)
    go_enter Try.func42, Try.ntmps42
    go_wp2
    go_ret
    exact ⟨ret1 (by rw [hs.out]), rfl⟩
  · have hs := hid (sn_eq h)
    subst h
    go_enter Try.func42, Try.ntmps42
    go_wp2
    go_ret
    exact ⟨ret1 (by rw [hs.out]), rfl⟩
  · have hs := hid (sn_gt h)
    go_enter Try.func42, Try.ntmps42
    go_wp2
    go_ret
    exact ⟨ret1 (by rw [hs.out]), rfl⟩

/-- two numbers of 128 bits are compared by their halves -/
theorem sn_halves (x y : Int) (h : x / 18446744073709551616 ≠ y / 18446744073709551616) : sn (x / 18446744073709551616) (y / 18446744073709551616) = sn x y := by
  unfold sn
  by_cases h1 : x / 18446744073709551616 < y / 18446744073709551616
  · rw [if_pos h1, if_pos (by omega)]
  · rw [if_neg h1, if_pos (by omega), if_neg (by omega), if_pos (by omega)]
theorem sn_lows (x y : Int) (h : x / 18446744073709551616 = y / 18446744073709551616) : sn (x % 18446744073709551616) (y % 18446744073709551616) = sn x y := by
  unfold sn
  by_cases h1 : x < y
  · rw [if_pos h1, if_pos (by omega)]
  · rw [if_neg h1, if_neg (by omega)]
    by_cases h2 : y < x
    · rw [if_pos h2, if_pos (by omega)]
    · rw [if_neg h2, if_neg (by omega)]

set_option maxRecDepth 100000 in
set_option maxHeartbeats 400000 in
theorem products_any (a b c d : Int) (w : World) (a0 : 0 ≤ a) (b0 : 0 ≤ b) (c0 : 0 ≤ c) (d0 : 0 ≤ d) (a1 : a ≤ 18446744073709551615) (b1 : b ≤ 18446744073709551615) (c1 : c ≤ 18446744073709551615) (d1 : d ≤ 18446744073709551615) :
    Calls Try.prog 41 #[.int .u64 a, .int .u64 b, .int .u64 c, .int .u64 d] w fun e w' => e = .returned (.int .i64 (sn (a * b) (c * d))) ∧ Q w w' := by
  have c1' := hid (fun w => mul64_any a b w a0 b0 a1 b1)
  have c2' := hid (fun w => mul64_any c d w c0 d0 c1 d1)
  have k1 := hid (sn_halves (a * b) (c * d))
  have k2 := hid (sn_lows (a * b) (c * d))
  generalize a * b = x at *
  generalize c * d = y at *
  by_cases h : x / 18446744073709551616 = y / 18446744073709551616
  · have hk := hid (k2.out h)
    have g : (x / 18446744073709551616 != y / 18446744073709551616) = false := by rw [bne_eq_false_iff_eq]; exact h
    clear h k1 k2
    go_enter Try.func41, Try.ntmps41
    go_wp2_with fail
    refine (c1'.out _).mono ?_
    rintro e w' ⟨rfl, rfl⟩
    go_wp2_with fail
    refine (c2'.out _).mono ?_
    rintro e w' ⟨rfl, rfl⟩
    go_wp2_with fail
    refine (compare_u64 _ _ _).mono ?_
    rintro e w' ⟨rfl, n, rfl⟩
    go_wp2_with fail
    go_ret
    exact ⟨ret1 hk.out, Q.drewN (Q.refl _) _⟩
  · have hk := hid (k1.out h)
    have g : (x / 18446744073709551616 != y / 18446744073709551616) = true := by rw [bne_iff_ne]; exact h
    clear h k1 k2
    go_enter Try.func41, Try.ntmps41
    go_wp2_with fail
    refine (c1'.out _).mono ?_
    rintro e w' ⟨rfl, rfl⟩
    go_wp2_with fail
    refine (c2'.out _).mono ?_
    rintro e w' ⟨rfl, rfl⟩
    go_wp2_with fail
    refine (compare_u64 _ _ _).mono ?_
    rintro e w' ⟨rfl, n, rfl⟩
    go_wp2_with fail
    go_ret
    exact ⟨ret1 hk.out, Q.drewN (Q.refl _) _⟩
end Go.Proofs.Ytjnlbgmfhomepaa.Num
