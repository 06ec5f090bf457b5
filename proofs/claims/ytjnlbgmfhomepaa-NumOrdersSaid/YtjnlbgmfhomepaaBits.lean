/- Contracts of math/bits: the product of two uint64 in 128 bits, the number of bits, and the quotient of 128 bits by 64 bits. -/
import Derived.Test.YtjnlbgmfhomepaaBase
import Derived.Laws.MathBits
import Derived.Shelf.Bits.Mul64
namespace Go.Proofs.Ytjnlbgmfhomepaa.Num
open Go.RowKit
set_option linter.unusedVariables false

theorem len_close (x c : Int) (k p i : Nat) (hp : 2 ^ k = p) (hc : c = (k : Int)) (hk : k ≤ 56) (hi : i = x.toNat / p) (h : i < 256) (h1 : 1 ≤ i) :
    wrap64 (c + wrap64 (bitLen i : Int)) = (bitLen x.toNat : Int) := by
  subst hp hc
  have h8 := bitLen_le8 i h
  have hs := bitLen_shift x.toNat k (by rw [← hi]; omega)
  rw [← hi] at hs
  unfold wrap64
  omega
theorem len_close0 (x : Int) (i : Nat) (hi : i = x.toNat) (h : i < 256) : wrap64 (wrap64 (bitLen i : Int)) = (bitLen x.toNat : Int) := by
  subst hi
  have h8 := bitLen_le8 x.toNat h
  unfold wrap64
  omega

set_option maxRecDepth 100000 in
set_option maxHeartbeats 4000000 in
theorem len64_any (x : Int) (w : World) (h0 : 1 ≤ x) (h1 : x ≤ 18446744073709551615) :
    Calls Try.prog 46 #[.int .u64 x] w fun e w' => e = .returned (.int .i64 (bitLen x.toNat : Int)) ∧ w = w' := by
  go_enter Try.func46, Try.ntmps46
  go_wp2
  all_goals go_ret
  all_goals refine ⟨ret1 ?_, rfl⟩
  all_goals rw [len8tab_get]
  all_goals first
    | exact len_close x _ 56 72057594037927936 _ (by decide) rfl (by decide) (by omega) (by omega) (by omega)
    | exact len_close x _ 48 281474976710656 _ (by decide) rfl (by decide) (by omega) (by omega) (by omega)
    | exact len_close x _ 40 1099511627776 _ (by decide) rfl (by decide) (by omega) (by omega) (by omega)
    | exact len_close x _ 32 4294967296 _ (by decide) rfl (by decide) (by omega) (by omega) (by omega)
    | exact len_close x _ 24 16777216 _ (by decide) rfl (by decide) (by omega) (by omega) (by omega)
    | exact len_close x _ 16 65536 _ (by decide) rfl (by decide) (by omega) (by omega) (by omega)
    | exact len_close x _ 8 256 _ (by decide) rfl (by decide) (by omega) (by omega) (by omega)
    | exact len_close0 x _ (by omega) (by omega)

set_option maxHeartbeats 400000 in
theorem lead64_any (x : Int) (w : World) (h0 : 1 ≤ x) (h1 : x ≤ 18446744073709551615) :
    Calls Try.prog 43 #[.int .u64 x] w fun e w' => e = .returned (.int .i64 (64 - (bitLen x.toNat : Int))) ∧ w = w' := by
  have hb : (bitLen x.toNat : Int) ≤ 64 := by
    have h := bitLen_spec x.toNat
    have : 2 ^ (bitLen x.toNat - 1) < 2 ^ 64 := Nat.lt_of_le_of_lt (h.2 (by omega)) (by omega)
    have := (Nat.pow_lt_pow_iff_right (a := 2) (by omega)).1 this
    omega
  go_enter Try.func43, Try.ntmps43
  go_wp2_with (go_at_call 46; refine (len64_any _ _ h0 h1).mono ?_; rintro e w' ⟨rfl, rfl⟩)
  go_ret
  exact ⟨rfl, rfl⟩

set_option maxHeartbeats 1000000 in
theorem mul64_nat (x y : Nat) (hx : x < 18446744073709551616) (hy : y < 18446744073709551616) (w : World) :
    Calls Try.prog 36 #[.int .u64 x, .int .u64 y] w fun e w' => e = .returned (.tuple #[.int .u64 ((x * y / 18446744073709551616 : Nat) : Int), .int .u64 ((x * y % 18446744073709551616 : Nat) : Int)]) ∧ w = w' := by
  obtain ⟨bd, bt, bw, hhi⟩ := Lib.mul64_hi x y hx hy
  have ba := Lib.half_mul_le (a := x / 4294967296) (b := y / 4294967296) (by omega) (by omega)
  have bb := Lib.half_mul_le (a := x / 4294967296) (b := y % 4294967296) (by omega) (by omega)
  have bc := Lib.half_mul_le (a := x % 4294967296) (b := y / 4294967296) (by omega) (by omega)
  have ba' : x / 4294967296 * (y / 4294967296) < 18446744073709551616 := by omega
  have bb' : x / 4294967296 * (y % 4294967296) < 18446744073709551616 := by omega
  have bc' : x % 4294967296 * (y / 4294967296) < 18446744073709551616 := by omega
  have bh1 : x / 4294967296 * (y / 4294967296) + (x / 4294967296 * (y % 4294967296) + x % 4294967296 * (y % 4294967296) / 4294967296) / 4294967296 < 18446744073709551616 := by omega
  have bh : x / 4294967296 * (y / 4294967296) + (x / 4294967296 * (y % 4294967296) + x % 4294967296 * (y % 4294967296) / 4294967296) / 4294967296 + ((x / 4294967296 * (y % 4294967296) + x % 4294967296 * (y % 4294967296) / 4294967296) % 4294967296 + x % 4294967296 * (y / 4294967296)) / 4294967296 < 18446744073709551616 := by omega
  go_enter Try.func36, Try.ntmps36
  go_wp2
  simp only [Proofs.Mul64.maskN x hx, Proofs.Mul64.maskN y hy, Proofs.Mul64.divN, Proofs.Mul64.mulN, Proofs.Mul64.addN, Proofs.Mul64.wrapN _ bd, Proofs.Mul64.wrapN _ bb', Proofs.Mul64.wrapN _ bt, Proofs.Mul64.maskN _ bt, Proofs.Mul64.wrapN _ bc', Proofs.Mul64.wrapN _ bw, Proofs.Mul64.wrapN _ ba', Proofs.Mul64.wrapN _ bh1, Proofs.Mul64.wrapN _ bh, Proofs.Mul64.wrapM (x * y)]
  rw [hhi]
  go_ret2
  exact ⟨rfl, rfl⟩

/-- the product of two uint64: its upper and its lower 64 bits -/
theorem mul64_any (x y : Int) (w : World) (hx0 : 0 ≤ x) (hy0 : 0 ≤ y) (hx : x ≤ 18446744073709551615) (hy : y ≤ 18446744073709551615) :
    Calls Try.prog 36 #[.int .u64 x, .int .u64 y] w fun e w' => e = .returned (.tuple #[.int .u64 (x * y / 18446744073709551616), .int .u64 (x * y % 18446744073709551616)]) ∧ w = w' := by
  obtain ⟨a, rfl⟩ := Int.eq_ofNat_of_zero_le hx0
  obtain ⟨b, rfl⟩ := Int.eq_ofNat_of_zero_le hy0
  refine (mul64_nat a b (by omega) (by omega) w).mono fun e w' ⟨he, hw⟩ => ⟨?_, hw⟩
  rw [he]
  exact ret2 (by rw [Int.natCast_ediv, Int.natCast_mul]; rfl) (by rw [Int.natCast_emod, Int.natCast_mul]; rfl)
end Go.Proofs.Ytjnlbgmfhomepaa.Num
