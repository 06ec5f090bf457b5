/- Plain mathematics for the division of 128 bits by 64 bits: how the divisor is normalized by a shift, and how the quotient is read off. -/
import Derived.Test.YtjdkgndecnhokaaHalf
import Derived.Laws.MathBits
import Derived.Laws.Bits64b
namespace Go.Proofs.Ytjdkgndecnhokaa.Num
set_option linter.unusedVariables false

/-- the shift that normalizes a divisor -/
theorem norm_of (y : Int) (h0 : 1 ≤ y) (h1 : y ≤ 18446744073709551615) : ∃ k : Nat, k ≤ 63 ∧ (bitLen y.toNat : Int) = 64 - (k : Int) ∧ 9223372036854775808 ≤ y * 2 ^ k ∧ y * 2 ^ k ≤ 18446744073709551615 := by
  have h := bitLen_spec y.toNat
  have hn : y.toNat ≠ 0 := by omega
  have hl1 : 1 ≤ bitLen y.toNat := by unfold bitLen; rw [if_neg hn]; omega
  have hl2 : bitLen y.toNat ≤ 64 := by
    have : 2 ^ (bitLen y.toNat - 1) < 2 ^ 64 := Nat.lt_of_le_of_lt (h.2 hn) (by omega)
    have := (Nat.pow_lt_pow_iff_right (a := 2) (by omega)).1 this
    omega
  refine ⟨64 - bitLen y.toNat, by omega, by omega, ?_⟩
  have e1 : 2 ^ (bitLen y.toNat - 1) * 2 ^ (64 - bitLen y.toNat) = 9223372036854775808 := by
    rw [← Nat.pow_add, show bitLen y.toNat - 1 + (64 - bitLen y.toNat) = 63 by omega]
  have e2 : 2 ^ (bitLen y.toNat) * 2 ^ (64 - bitLen y.toNat) = 18446744073709551616 := by
    rw [← Nat.pow_add, show bitLen y.toNat + (64 - bitLen y.toNat) = 64 by omega]
  have g1 := Nat.mul_le_mul_right (2 ^ (64 - bitLen y.toNat)) (h.2 hn)
  have g2 := Nat.mul_lt_mul_of_pos_right h.1 (Nat.two_pow_pos (64 - bitLen y.toNat))
  rw [e1] at g1
  rw [e2] at g2
  have e3 : y * 2 ^ (64 - bitLen y.toNat) = ((y.toNat * 2 ^ (64 - bitLen y.toNat) : Nat) : Int) := by
    rw [Int.natCast_mul, Int.natCast_pow, Int.toNat_of_nonneg (by omega)]; rfl
  rw [e3]
  omega

/-- what the shifts make of dividend and divisor -/
theorem norm_parts (hi lo y : Int) (k : Nat) (h0 : 1 ≤ hi) (h1 : hi < y) (hl0 : 0 ≤ lo) (hl : lo ≤ 18446744073709551615) (hk : k ≤ 63) (n1 : 9223372036854775808 ≤ y * 2 ^ k) (n2 : y * 2 ^ k ≤ 18446744073709551615) :
    IntKind.u64.wrap (y * 2 ^ k) = y * 2 ^ k ∧ IntKind.u64.wrap (hi * 2 ^ k) = hi * 2 ^ k ∧ bits .or .u64 (hi * 2 ^ k) (lo / 2 ^ (64 - k)) = hi * 2 ^ k + lo / 2 ^ (64 - k) ∧
    IntKind.u64.wrap (lo * 2 ^ k) = lo * 2 ^ k % 18446744073709551616 ∧ (hi * 2 ^ k + lo / 2 ^ (64 - k)) * 18446744073709551616 + lo * 2 ^ k % 18446744073709551616 = (hi * 18446744073709551616 + lo) * 2 ^ k ∧
    0 ≤ hi * 2 ^ k + lo / 2 ^ (64 - k) := by
  obtain ⟨h, rfl⟩ := Int.eq_ofNat_of_zero_le (show 0 ≤ hi by omega)
  obtain ⟨m, rfl⟩ := Int.eq_ofNat_of_zero_le hl0
  obtain ⟨d, rfl⟩ := Int.eq_ofNat_of_zero_le (show 0 ≤ y by omega)
  have eS : ((2 ^ k : Nat) : Int) = 2 ^ k := by rw [Int.natCast_pow]; rfl
  have eD : ((2 ^ (64 - k) : Nat) : Int) = 2 ^ (64 - k) := by rw [Int.natCast_pow]; rfl
  have eSD : 2 ^ k * 2 ^ (64 - k) = 18446744073709551616 := by rw [← Nat.pow_add, show k + (64 - k) = 64 by omega]
  rw [← eS] at n1 n2
  rw [← eS, ← eD]
  have hSp := Nat.two_pow_pos k
  have hDp := Nat.two_pow_pos (64 - k)
  generalize hS : 2 ^ k = S at *
  generalize hD : 2 ^ (64 - k) = D at *
  rw [← Int.natCast_mul] at n1 n2
  rw [← Int.natCast_mul, ← Int.natCast_mul, ← Int.natCast_mul, ← Int.natCast_ediv]
  have p1 : (h + 1) * S ≤ d * S := Nat.mul_le_mul_right S (by omega)
  rw [Nat.add_mul, Nat.one_mul] at p1
  have p2 : m / D < S := (Nat.div_lt_iff_lt_mul hDp).2 (by omega)
  have p3 : m * S / 18446744073709551616 = m / D := by rw [← eSD, Nat.mul_comm S D]; exact Nat.mul_div_mul_right m D hSp
  have p4 := Nat.div_add_mod (m * S) 18446744073709551616
  rw [p3] at p4
  refine ⟨by rw [IntKind.wrap_u64]; omega, by rw [IntKind.wrap_u64]; omega, ?_, by rw [IntKind.wrap_u64], ?_, by omega⟩
  · rw [bits_or_u64_nat _ _ (by omega) (by omega)]
    have := Nat.two_pow_add_eq_or_of_lt (b := m / D) (i := k) (by rw [hS]; exact p2) h
    rw [hS] at this
    rw [Nat.mul_comm h S, ← this]
    omega
  · have q1 : ((m * S % 18446744073709551616 : Nat) : Int) = ((m * S : Nat) : Int) % 18446744073709551616 := by omega
    have q2 : ((h * 18446744073709551616 + m) * (S : Int) : Int) = ((h * S * 18446744073709551616 + m * S : Nat) : Int) := by
      rw [Int.natCast_add, Int.natCast_mul, Int.natCast_mul, Int.natCast_mul, Int.add_mul, Int.mul_right_comm]
      rfl
    rw [q2]
    omega

/-- the premises of the first half step -/
theorem half_first (N u l y Y S : Int) (h : u * 18446744073709551616 + l = N * S) (hY : Y = y * S) (hN : N < y * 18446744073709551616) (hS : 0 < S) (l0 : 0 ≤ l) (l1 : l < 18446744073709551616) (u0 : 0 ≤ u) (Y0 : 9223372036854775808 ≤ Y) (Y1 : Y ≤ 18446744073709551615) :
    Half u (Y / 4294967296) (Y % 4294967296) (l / 4294967296) := by
  have h1 : N * S < y * 18446744073709551616 * S := Int.mul_lt_mul_of_pos_right hN hS
  rw [Int.mul_right_comm, ← hY] at h1
  unfold Half
  omega

/-- the quotient and the remainder, read off -/
theorem read_off (N S y Y q R : Int) (hS : 0 < S) (hY : Y = y * S) (h : N * S = q * Y + R) (R0 : 0 ≤ R) (R1 : R < Y) : q = N / y ∧ R / S = N % y := by
  have e : R = (N - q * y) * S := by rw [Int.sub_mul, Int.mul_assoc, ← hY]; omega
  have e2 : R / S = N - q * y := by rw [e]; exact Int.mul_ediv_cancel _ (by omega)
  have b0 : 0 ≤ N - q * y := by
    rw [e] at R0
    exact Int.nonneg_of_mul_nonneg_left R0 hS
  have b1 : N - q * y < y := by
    rw [e, hY] at R1
    exact Int.lt_of_mul_lt_mul_right R1 (by omega)
  have := (Int.ediv_emod_unique (a := N) (b := y) (q := q) (r := N - q * y) (by omega)).2 ⟨by rw [Int.mul_comm y q]; omega, b0, b1⟩
  exact ⟨this.1.symm, e2.trans this.2.symm⟩

/-- the words of a half step do not wrap in the end -/
theorem half_wrap (u c t Y v : Int) (hv : v = u * 4294967296 + c - t * Y) (v0 : 0 ≤ v) (v1 : v ≤ 18446744073709551615) :
    IntKind.u64.wrap (IntKind.u64.wrap (IntKind.u64.wrap (u * 4294967296) + c) - IntKind.u64.wrap (t * Y)) = v := by
  rw [IntKind.wrap_u64, IntKind.wrap_u64, IntKind.wrap_u64, IntKind.wrap_u64]
  omega
theorem start_wrap (u q y1 r : Int) (hr : r = u - q * y1) (r0 : 0 ≤ r) (r1 : r ≤ 18446744073709551615) : IntKind.u64.wrap (u - IntKind.u64.wrap (q * y1)) = r := by
  rw [IntKind.wrap_u64, IntKind.wrap_u64]
  omega
end Go.Proofs.Ytjdkgndecnhokaa.Num
