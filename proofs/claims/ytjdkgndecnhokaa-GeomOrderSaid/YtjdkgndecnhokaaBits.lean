/- Contracts of math/bits: the product of two uint64 in 128 bits, the number of bits, and the quotient of 128 bits by 64 bits. -/
import Derived.Test.YtjdkgndecnhokaaBase
import Derived.Laws.MathBits
import Derived.Laws.Bits64b
namespace Go.Proofs.Ytjdkgndecnhokaa.Num
open Go.RowKit
set_option linter.unusedVariables false

theorem len_close (x c : Int) (k p i : Nat) (hp : 2 ^ k = p) (hc : c = (k : Int)) (hk : k ≤ 56) (hi : i = x.toNat / p) (h : i < 256) (h1 : 1 ≤ i) :
    wrap64 (c + wrap64 (bitLen i : Int)) = (bitLen x.toNat : Int) := by
  subst hp hc
  have h8 := bitLen_le8 i h
  have hs := bitLen_shift x.toNat k (by rw [← hi]; omega)
  rw [← hi] at hs
  unfold wrap64
  omega
theorem len_close0 (x : Int) (i : Nat) (hi : i = x.toNat) (h : i < 256) : wrap64 (wrap64 (bitLen i : Int)) = (bitLen x.toNat : Int) := by
  subst hi
  have h8 := bitLen_le8 x.toNat h
  unfold wrap64
  omega

set_option maxRecDepth 100000 in
set_option maxHeartbeats 4000000 in
theorem len64_any (x : Int) (w : World) (h0 : 1 ≤ x) (h1 : x ≤ 18446744073709551615) :
    Calls Try.prog 57 #[.int .u64 x] w fun e w' => e = .returned (.int .i64 (bitLen x.toNat : Int)) ∧ w = w' := by
  go_enter Try.func57, Try.ntmps57
  go_wp2
  all_goals go_ret
  all_goals refine ⟨ret1 ?_, rfl⟩
  all_goals rw [len8tab_get]
  all_goals first
    | exact len_close x _ 56 72057594037927936 _ (by decide) rfl (by decide) (by omega) (by omega) (by omega)
    | exact len_close x _ 48 281474976710656 _ (by decide) rfl (by decide) (by omega) (by omega) (by omega)
    | exact len_close x _ 40 1099511627776 _ (by decide) rfl (by decide) (by omega) (by omega) (by omega)
    | exact len_close x _ 32 4294967296 _ (by decide) rfl (by decide) (by omega) (by omega) (by omega)
    | exact len_close x _ 24 16777216 _ (by decide) rfl (by decide) (by omega) (by omega) (by omega)
    | exact len_close x _ 16 65536 _ (by decide) rfl (by decide) (by omega) (by omega) (by omega)
    | exact len_close x _ 8 256 _ (by decide) rfl (by decide) (by omega) (by omega) (by omega)
    | exact len_close0 x _ (by omega) (by omega)

set_option maxHeartbeats 400000 in
theorem lead64_any (x : Int) (w : World) (h0 : 1 ≤ x) (h1 : x ≤ 18446744073709551615) :
    Calls Try.prog 56 #[.int .u64 x] w fun e w' => e = .returned (.int .i64 (64 - (bitLen x.toNat : Int))) ∧ w = w' := by
  have hb : (bitLen x.toNat : Int) ≤ 64 := by
    have h := bitLen_spec x.toNat
    have : 2 ^ (bitLen x.toNat - 1) < 2 ^ 64 := Nat.lt_of_le_of_lt (h.2 (by omega)) (by omega)
    have := (Nat.pow_lt_pow_iff_right (a := 2) (by omega)).1 this
    omega
  go_enter Try.func56, Try.ntmps56
  go_wp2_with (go_at_call 57; refine (len64_any _ _ h0 h1).mono ?_; rintro e w' ⟨rfl, rfl⟩)
  go_ret
  exact ⟨rfl, rfl⟩

theorem four_products (x1 x0 y1 y0 : Int) : (x1 * 4294967296 + x0) * (y1 * 4294967296 + y0) = x1 * y1 * 18446744073709551616 + (x1 * y0) * 4294967296 + (x0 * y1) * 4294967296 + x0 * y0 := by
  rw [Int.add_mul, Int.mul_add, Int.mul_add, ← Int.mul_assoc x0, Int.mul_right_comm x1 4294967296 y0, ← Int.mul_assoc (x1 * 4294967296), Int.mul_right_comm x1 4294967296 y1]
  omega
theorem half_product (a b : Int) (a0 : 0 ≤ a) (a1 : a ≤ 4294967295) (b0 : 0 ≤ b) (b1 : b ≤ 4294967295) : 0 ≤ a * b ∧ a * b ≤ 18446744065119617025 := by
  refine ⟨Int.mul_nonneg a0 b0, ?_⟩
  have := Int.mul_le_mul (a := a) (b := b) (c := 4294967295) (d := 4294967295) a1 b1 b0 (by omega)
  omega

/-- the product of two uint64: its upper and its lower 64 bits -/
theorem mul64_any (x y : Int) (w : World) (hx0 : 0 ≤ x) (hy0 : 0 ≤ y) (hx : x ≤ 18446744073709551615) (hy : y ≤ 18446744073709551615) :
    Calls Try.prog 54 #[.int .u64 x, .int .u64 y] w fun e w' => e = .returned (.tuple #[.int .u64 (x * y / 18446744073709551616), .int .u64 (x * y % 18446744073709551616)]) ∧ w = w' := by
  have ex := and_low32 x hx0 (by omega)
  have ey := and_low32 y hy0 (by omega)
  obtain ⟨x0, h1⟩ : ∃ v : Int, v = x % 4294967296 := ⟨_, rfl⟩
  obtain ⟨x1, h2⟩ : ∃ v : Int, v = x / 4294967296 := ⟨_, rfl⟩
  obtain ⟨y0, h3⟩ : ∃ v : Int, v = y % 4294967296 := ⟨_, rfl⟩
  obtain ⟨y1, h4⟩ : ∃ v : Int, v = y / 4294967296 := ⟨_, rfl⟩
  rw [← h1] at ex
  rw [← h3] at ey
  have q1 := half_product x1 y1 (by omega) (by omega) (by omega) (by omega)
  have q2 := half_product x1 y0 (by omega) (by omega) (by omega) (by omega)
  have q3 := half_product x0 y1 (by omega) (by omega) (by omega) (by omega)
  have q4 := half_product x0 y0 (by omega) (by omega) (by omega) (by omega)
  have hp := four_products x1 x0 y1 y0
  rw [show x1 * 4294967296 + x0 = x by omega, show y1 * 4294967296 + y0 = y by omega] at hp
  have et := and_low32 (x1 * y0 + x0 * y0 / 4294967296) (by omega) (by omega)
  obtain ⟨u, hu⟩ : ∃ v : Int, v = (x1 * y0 + x0 * y0 / 4294967296) % 4294967296 := ⟨_, rfl⟩
  rw [← hu] at et
  have u0 : 0 ≤ u ∧ u ≤ 4294967295 := by omega
  have hl := hid (show IntKind.u64.wrap (x * y) = x * y % 18446744073709551616 from IntKind.wrap_u64 _)
  have hi := hid (show x1 * y1 + (x1 * y0 + x0 * y0 / 4294967296) / 4294967296 + (u + x0 * y1) / 4294967296 = x * y / 18446744073709551616 by omega)
  have b1 : x1 * y1 + (x1 * y0 + x0 * y0 / 4294967296) / 4294967296 ≤ 18446744073709551615 := by omega
  have b2 : x1 * y1 + (x1 * y0 + x0 * y0 / 4294967296) / 4294967296 + (u + x0 * y1) / 4294967296 ≤ 18446744073709551615 := by omega
  have e2 : x / 4294967296 = x1 := h2.symm
  have e4 : y / 4294967296 = y1 := h4.symm
  clear h1 h2 h3 h4 hp hu
  go_enter Try.func54, Try.ntmps54
  go_wp2
  go_ret2
  exact ⟨ret2 hi.out hl.out, rfl⟩
end Go.Proofs.Ytjdkgndecnhokaa.Num
