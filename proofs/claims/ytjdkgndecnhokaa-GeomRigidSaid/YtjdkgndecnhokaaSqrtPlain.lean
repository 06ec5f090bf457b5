/- Plain mathematics for Sqrt: a root is found bit by bit. No Go and no program in this text. -/
import Derived.Test.YtjdkgndecnhokaaPlain
import Derived.Laws.BitsLemmas
import Derived.Laws.BitsAllLaws
import Derived.RowKit
namespace Go.Proofs.Ytjdkgndecnhokaa.Num
open Go.RowKit
set_option linter.unusedVariables false

theorem or_i64 (a b : Nat) (ha : a < 9223372036854775808) (hb : b < 9223372036854775808) : bits .or .i64 (a : Int) (b : Int) = ((a ||| b : Nat) : Int) := by
  have hx : a ||| b < 2 ^ 63 := Nat.or_lt_two_pow (by omega) (by omega)
  have h1 : (BitVec.ofInt 64 (a : Int)).toNat = a := by
    rw [BitVec.ofInt_natCast, BitVec.toNat_ofNat]; exact Nat.mod_eq_of_lt (by omega)
  have h2 : (BitVec.ofInt 64 (b : Int)).toNat = b := by
    rw [BitVec.ofInt_natCast, BitVec.toNat_ofNat]; exact Nat.mod_eq_of_lt (by omega)
  show IntKind.i64.wrap ((BitVec.ofInt 64 (a : Int) ||| BitVec.ofInt 64 (b : Int)).toNat : Int) = _
  rw [BitVec.toNat_or, h1, h2, IntKind.wrap_i64]
  omega

/-- r has the upper bits of the root of n, and p counts the others -/
def SI (n r : Int) (j : Nat) : Prop := ∃ k : Nat, r = ((2 ^ j * k : Nat) : Int) ∧ r + ((2 ^ j : Nat) : Int) ≤ 4294967296 ∧ r * r ≤ n ∧ n < (r + ((2 ^ j : Nat) : Int)) * (r + ((2 ^ j : Nat) : Int))
theorem si_start (n : Int) (h0 : 0 ≤ n) (h1 : n ≤ 9223372036854775807) : SI n 0 32 := ⟨0, by simp, by decide, by omega, by simp; omega⟩
theorem si_bound {n r : Int} {j : Nat} (h : SI n r j) : 0 ≤ r ∧ r ≤ 4294967295 := by
  obtain ⟨k, h1, h2, _⟩ := h
  have := Nat.two_pow_pos j
  omega
theorem si_step {n r : Int} {j : Nat} (h : SI n r (j + 1)) : ∃ b m : Int, b = ((2 ^ j : Nat) : Int) ∧ wrap64 b = b ∧ bits .or .i64 r b = m ∧ 1 ≤ m ∧ m ≤ 4294967295 ∧ (m ≤ n / m → SI n m j) ∧ (¬ m ≤ n / m → SI n r j) := by
  obtain ⟨k, h1, h2, h3, h4⟩ := h
  have hp := Nat.two_pow_pos j
  have e : 2 ^ (j + 1) = 2 * 2 ^ j := by rw [Nat.pow_succ, Nat.mul_comm]
  rw [e] at h2 h4
  have hb := Nat.two_pow_add_eq_or_of_lt (b := 2 ^ j) (i := j + 1) (by omega) k
  have e2 : 2 ^ (j + 1) * k = 2 * (2 ^ j * k) := by rw [e, Nat.mul_assoc]
  rw [e2] at h1 hb
  have e3 : 2 ^ j * (2 * k + 1) = 2 * (2 ^ j * k) + 2 ^ j := by rw [Nat.mul_add, Nat.mul_left_comm, Nat.mul_one]
  have e4 : 2 ^ j * (2 * k) = 2 * (2 ^ j * k) := Nat.mul_left_comm _ _ _
  have ho : bits .or .i64 r ((2 ^ j : Nat) : Int) = r + ((2 ^ j : Nat) : Int) := by
    rw [h1, or_i64 _ _ (by omega) (by omega), ← hb]
    omega
  refine ⟨_, _, rfl, by unfold wrap64; omega, ho, by omega, by omega, fun g => ⟨2 * k + 1, by rw [e3]; omega, by omega, ?_, ?_⟩, fun g => ⟨2 * k, by rw [e4]; exact h1, by omega, h3, ?_⟩⟩
  · exact (Int.le_ediv_iff_mul_le (by omega)).1 g
  · have : r + ((2 ^ j : Nat) : Int) + ((2 ^ j : Nat) : Int) = r + ((2 * 2 ^ j : Nat) : Int) := by omega
    rw [this]; exact h4
  · have : ¬ (r + ((2 ^ j : Nat) : Int)) * (r + ((2 ^ j : Nat) : Int)) ≤ n := fun x => g ((Int.le_ediv_iff_mul_le (by omega)).2 x)
    omega
theorem si_end {n r : Int} (h : SI n r 0) : r * r ≤ n ∧ n < (r + 1) * (r + 1) := by
  obtain ⟨k, h1, h2, h3, h4⟩ := h
  exact ⟨h3, by simpa using h4⟩
theorem shift_one (j : Nat) (hj : j ≤ 31) : (2 : Int) ^ j = ((2 ^ j : Nat) : Int) := by rw [Int.natCast_pow]; rfl
theorem neg_step (j : Nat) (hj : j ≤ 31) : ∃ b m : Int, b = ((2 ^ j : Nat) : Int) ∧ wrap64 b = b ∧ bits .or .i64 0 b = m ∧ 1 ≤ m ∧ m ≤ 4294967295 := by
  have h1 := Nat.pow_le_pow_right (n := 2) (by omega) hj
  have h2 := Nat.two_pow_pos j
  have ho : bits .or .i64 0 ((2 ^ j : Nat) : Int) = ((2 ^ j : Nat) : Int) := by
    rw [show (0 : Int) = ((0 : Nat) : Int) from rfl, or_i64 _ _ (by omega) (by omega), Nat.zero_or]
  exact ⟨_, _, rfl, by unfold wrap64; omega, ho, by omega, by omega⟩
end Go.Proofs.Ytjdkgndecnhokaa.Num
