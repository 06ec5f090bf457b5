/- Plain mathematics for the reference's product: long multiplication and division bit by bit. No Go and no program in this text. -/
import Derived.Test.YtjnlbgmfhomepaaPlain
import Derived.Laws.MathBits
import Derived.Laws.Bits64b
namespace Go.Proofs.Ytjnlbgmfhomepaa.Num
set_option linter.unusedVariables false

/-- y times the bits so far, divided by z -/
def PI (A y z q r : Int) : Prop := y * A = z * q + r ∧ 0 ≤ r ∧ r < z ∧ 0 ≤ q ∧ q ≤ 9223372036854775809
theorem pi_start (y z : Int) (hz : 1 ≤ z) : PI 0 y z 0 0 := ⟨by simp, by omega, by omega, by omega, by omega⟩
theorem pi_dbl {A y z q r : Int} (h : PI A y z q r) (hq : q ≤ 4611686018427387904) (hr : 2 * r < z) : PI (2 * A) y z (2 * q) (2 * r) := by
  obtain ⟨e, a, b, c, d⟩ := h
  refine ⟨?_, by omega, by omega, by omega, by omega⟩
  rw [Int.mul_left_comm y 2 A, Int.mul_left_comm z 2 q]; omega
theorem pi_dbl1 {A y z q r : Int} (h : PI A y z q r) (hq : q ≤ 4611686018427387904) (hr : z ≤ 2 * r) : PI (2 * A) y z (2 * q + 1) (2 * r - z) := by
  obtain ⟨e, a, b, c, d⟩ := h
  refine ⟨?_, by omega, by omega, by omega, by omega⟩
  rw [Int.mul_left_comm y 2 A, Int.mul_add, Int.mul_left_comm z 2 q]; omega
theorem pi_add {A y z q r s t : Int} (h : PI A y z q r) (e : y = z * s + t) (hs : 0 ≤ s) (t0 : 0 ≤ t) (t1 : t < z) (hq : q + s ≤ 9223372036854775808) (hr : r + t < z) : PI (A + 1) y z (q + s) (r + t) := by
  obtain ⟨e', a, b, c, d⟩ := h
  refine ⟨?_, by omega, by omega, by omega, by omega⟩
  rw [Int.mul_add, Int.mul_add]; omega
theorem pi_add1 {A y z q r s t : Int} (h : PI A y z q r) (e : y = z * s + t) (hs : 0 ≤ s) (t0 : 0 ≤ t) (t1 : t < z) (hq : q + s ≤ 9223372036854775808) (hr : z ≤ r + t) : PI (A + 1) y z (q + s + 1) (r + t - z) := by
  obtain ⟨e', a, b, c, d⟩ := h
  refine ⟨?_, by omega, by omega, by omega, by omega⟩
  rw [Int.mul_add, Int.mul_add, Int.mul_add]; omega
/-- a quotient that has grown too great stays so -/
theorem pi_over {A x y z q r : Int} (h : PI A y z q r) (hz : 1 ≤ z) (hy : 0 ≤ y) (hx : 2 * A ≤ x) (hq : 4611686018427387904 < q) : 9223372036854775808 < x * y / z := by
  obtain ⟨e, a, b, c, d⟩ := h
  have h1 : 2 * A * y ≤ x * y := Int.mul_le_mul_of_nonneg_right hx hy
  have h2 : z * 9223372036854775810 ≤ z * (2 * q) := Int.mul_le_mul_of_nonneg_left (by omega) (by omega)
  rw [Int.mul_left_comm z 2 q] at h2
  rw [Int.mul_assoc, Int.mul_comm A y] at h1
  have h3 : 9223372036854775810 ≤ x * y / z := (Int.le_ediv_iff_mul_le (by omega)).2 (by omega)
  omega
theorem pi_over2 {A x y z q r s t : Int} (h : PI A y z q r) (hz : 1 ≤ z) (hy : 0 ≤ y) (hx : A + 1 ≤ x) (e : y = z * s + t) (t0 : 0 ≤ t) (hq : 9223372036854775808 < q + s) : 9223372036854775808 < x * y / z := by
  obtain ⟨e', a, b, c, d⟩ := h
  have h1 : (A + 1) * y ≤ x * y := Int.mul_le_mul_of_nonneg_right hx hy
  have h2 : z * 9223372036854775809 ≤ z * (q + s) := Int.mul_le_mul_of_nonneg_left (by omega) (by omega)
  rw [Int.mul_add] at h2
  rw [Int.add_mul, Int.one_mul, Int.mul_comm A y] at h1
  have h3 : 9223372036854775809 ≤ x * y / z := (Int.le_ediv_iff_mul_le (by omega)).2 (by omega)
  omega
theorem pi_end {x y z q r : Int} (h : PI x y z q r) (hz : 1 ≤ z) : q = x * y / z ∧ r = x * y % z := by
  obtain ⟨e, a, b, c, d⟩ := h
  have := (Int.ediv_emod_unique (a := x * y) (b := z) (q := q) (r := r) (by omega)).2 ⟨by rw [Int.mul_comm x y]; omega, a, b⟩
  exact ⟨this.1.symm, this.2.symm⟩

/-- the bits of a number, from the top -/
theorem bit_step (x i : Int) (hx : 0 ≤ x) (hi : 0 ≤ i) : x / 2 ^ i.toNat = 2 * (x / 2 ^ (i + 1).toNat) + (x / 2 ^ i.toNat) % 2 := by
  have e : (i + 1).toNat = i.toNat + 1 := by omega
  have h : x / 2 ^ (i + 1).toNat = x / 2 ^ i.toNat / 2 := by
    rw [e, Int.pow_succ, Int.ediv_ediv_of_nonneg (Int.le_of_lt (Int.pow_pos (by omega)))]
  rw [h]; omega
theorem bit_top (x : Int) (hx : 0 ≤ x) (h : x ≤ 18446744073709551615) : x / 2 ^ ((63 : Int) + 1).toNat = 0 := by
  show x / 2 ^ 64 = 0
  exact Int.ediv_eq_zero_of_lt hx (by omega)
theorem bit_le (x : Int) (n : Nat) (hx : 0 ≤ x) : 0 ≤ x / 2 ^ n ∧ x / 2 ^ n ≤ x :=
  ⟨Int.ediv_nonneg hx (Int.le_of_lt (Int.pow_pos (by omega))), Int.ediv_le_self _ hx⟩
theorem and_one (x : Int) (h0 : 0 ≤ x) (h : x ≤ 18446744073709551615) : bits .and .u64 x 1 = x % 2 := by
  obtain ⟨a, rfl⟩ := Int.eq_ofNat_of_zero_le h0
  have := bits_and_u64_nat a 1 (by omega) (by omega)
  rw [Nat.and_one_is_mod] at this
  rw [show (1 : Int) = ((1 : Nat) : Int) from rfl, this]
  omega
end Go.Proofs.Ytjnlbgmfhomepaa.Num
