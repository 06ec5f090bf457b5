/- Contracts of Gcd (layer 1 and its reference) and of Sqrt. -/
import Derived.Test.YtjnlbgmfhomepaaBase
import Derived.Test.YtjnlbgmfhomepaaSqrtPlain
namespace Go.Proofs.Ytjnlbgmfhomepaa.Num
open Go.RowKit
set_option linter.unusedVariables false

theorem gcd_abs (a b : Int) : Int.gcd (a.natAbs : Int) (b.natAbs : Int) = Int.gcd a b := rfl
theorem gcd_le (a b : Int) (ha : okI a) (hb : okI b) : (Int.gcd a b : Int) ≤ 18446744073709551615 := by
  unfold okI at ha hb
  by_cases h : a = 0
  · subst h
    rw [Int.gcd_zero_left]; omega
  · have : Int.gcd a b ≤ a.natAbs := Nat.gcd_le_left _ (by omega)
    omega

set_option maxHeartbeats 400000 in
theorem Gcd_any (a b : Int) (w : World) (ha : okI a) (hb : okI b) :
    Calls Try.prog 18 #[.int .i64 a, .int .i64 b] w fun e w' => e = .returned (.int .i64 (rv (Int.gcd a b : Int))) ∧ Q w w' := by
  have hl := gcd_le a b ha hb
  have hg := hid (gcd_abs a b)
  unfold okI at ha hb
  go_enter Try.func18, Try.ntmps18
  go_wp2_with fail
  refine (magnitude_any a _ ha.1 ha.2).mono ?_
  rintro e w' ⟨rfl, rfl⟩
  go_wp2_with fail
  refine (magnitude_any b _ hb.1 hb.2).mono ?_
  rintro e w' ⟨rfl, rfl⟩
  go_wp2_with fail
  refine (gcd_any _ _ _ (by omega) (by omega) (by omega) (by omega)).mono ?_
  rintro e w' ⟨rfl, n, rfl⟩
  rw [hg.out]
  go_wp2_with fail
  refine (signed_any _ false _ (by omega) (by omega)).mono ?_
  rintro e w' ⟨rfl, rfl⟩
  go_wp2_with fail
  go_ret
  exact ⟨rfl, Q.drewN (Q.refl _) _⟩

set_option maxHeartbeats 400000 in
theorem rGcd_any (a b : Int) (w : World) (ha : okI a) (hb : okI b) :
    Calls Try.prog 19 #[.int .i64 a, .int .i64 b] w fun e w' => e = .returned (.int .i64 (rv (Int.gcd a b : Int))) ∧ Q w w' := by
  have hl := gcd_le a b ha hb
  have hg := hid (gcd_abs a b)
  unfold okI at ha hb
  go_enter Try.func19, Try.ntmps19
  go_wp2_with fail
  refine (size_any a _ ha.1 ha.2).mono ?_
  rintro e w' ⟨rfl, rfl⟩
  go_wp2_with fail
  refine (size_any b _ hb.1 hb.2).mono ?_
  rintro e w' ⟨rfl, rfl⟩
  go_wp2_with fail
  refine (common_any _ _ _ (by omega) (by omega) (by omega) (by omega)).mono ?_
  rintro e w' ⟨rfl, n, rfl⟩
  rw [hg.out]
  go_wp2_with fail
  refine (rsigned_any _ false _ (by omega) (by omega)).mono ?_
  rintro e w' ⟨rfl, rfl⟩
  go_wp2_with fail
  go_ret
  exact ⟨rfl, Q.drewN (Q.refl _) _⟩

def SqPost (n : Int) (w : World) (e : Ending) (w' : World) : Prop := ∃ r : Int, e = .returned (.int .i64 r) ∧ (0 ≤ r ∧ (n < 0 → r = 0) ∧ (0 ≤ n → r * r ≤ n ∧ n < (r + 1) * (r + 1))) ∧ Q w w'
set_option maxRecDepth 100000 in
set_option maxHeartbeats 400000 in
theorem sqrt_pos (n : Int) (w : World) (h0 : 0 ≤ n) (h1 : n ≤ 9223372036854775807) :
    Calls Try.prog 22 #[.int .i64 n] w (SqPost n w) := by
  go_enter Try.func22, Try.ntmps22
  go_wp2
  go_loop [2, 5] (fun a c => ∃ r i : Int, a = .int .i64 r ∧ c = .int .i64 i ∧ 0 ≤ i ∧ i ≤ 32 ∧ 0 ≤ r ∧ r ≤ 4294967295 ∧ Hid (SI n r (32 - i).toNat)) (fun _ c => (32 - intOf c).toNat)
  case atStart => exact ⟨0, 0, rfl, rfl, by omega, by omega, by omega, by omega, hid (si_start n h0 h1)⟩
  case round =>
    obtain ⟨r, i, rfl, rfl, i0, i1, r0, r1, hs⟩ := hrel
    by_cases hi : i < 32
    · have i2 : i ≤ 31 := by omega
      have hs' := hs.out
      rw [show (32 - i).toNat = (31 - i).toNat + 1 by omega] at hs'
      obtain ⟨b, m, hb, e1, e2, m1, m2, g1, g2⟩ := si_step hs'
      rw [← shift_one _ (by omega)] at hb
      rw [hb] at e1
      rw [← hb] at e1
      have k1 := hid g1
      have k2 := hid g2
      have e0 : (2 : Int) ^ (31 - i).toNat = b := hb.symm
      have m0 : ¬ m = 0 := by omega
      have et : (32 - (i + 1)).toNat = (31 - i).toNat := by omega
      have het := hid et
      clear et hs' g1 g2 hb
      by_cases hm : m ≤ n / m
      · have hn := hid (k1.out hm)
        go_wp2
        go_round
        case rel => exact ⟨m, i + 1, rfl, rfl, by omega, by omega, by omega, by omega, hid (by rw [het.out]; exact hn.out)⟩
        case measure => simp [intOf]; omega
      · have hn := hid (k2.out hm)
        go_wp2
        go_round
        case rel => exact ⟨r, i + 1, rfl, rfl, by omega, by omega, by omega, by omega, hid (by rw [het.out]; exact hn.out)⟩
        case measure => simp [intOf]; omega
    · have he := hid (show (32 - i).toNat = 0 by omega)
      have hl : (32 : Int) ≤ i := by omega
      clear hi
      go_wp2
      go_ret
      have hs' := hs.out
      rw [he.out] at hs'
      have := si_end hs'
      exact ⟨_, rfl, ⟨r0, fun _ => by omega, fun _ => this⟩, Q.refl _⟩

set_option maxRecDepth 100000 in
set_option maxHeartbeats 400000 in
theorem sqrt_neg (n : Int) (w : World) (h0 : n < 0) (h1 : -9223372036854775808 ≤ n) :
    Calls Try.prog 22 #[.int .i64 n] w (SqPost n w) := by
  go_enter Try.func22, Try.ntmps22
  go_wp2
  go_loop [2, 5] (fun a c => ∃ i : Int, a = .int .i64 0 ∧ c = .int .i64 i ∧ 0 ≤ i ∧ i ≤ 32) (fun _ c => (32 - intOf c).toNat)
  case atStart => exact ⟨0, rfl, rfl, by omega, by omega⟩
  case round =>
    obtain ⟨i, rfl, rfl, i0, i1⟩ := hrel
    by_cases hi : i < 32
    · have i2 : i ≤ 31 := by omega
      obtain ⟨b, m, hb, e1, e2, m1, m2⟩ := neg_step (31 - i).toNat (by omega)
      rw [← shift_one _ (by omega)] at hb
      have e0 : (2 : Int) ^ (31 - i).toNat = b := hb.symm
      have m0 : ¬ m = 0 := by omega
      have hq : n.tdiv m ≤ 0 := by
        have a1 : 0 ≤ (-n).tdiv m := Int.tdiv_nonneg (by omega) (by omega)
        rw [Int.neg_tdiv] at a1
        omega
      clear hb
      go_wp2
      go_round
      case rel => exact ⟨i + 1, rfl, rfl, by omega, by omega⟩
      case measure => simp [intOf]; omega
    · have hl : (32 : Int) ≤ i := by omega
      clear hi
      go_wp2
      go_ret
      exact ⟨_, rfl, ⟨by omega, fun _ => rfl, fun _ => by omega⟩, Q.refl _⟩

theorem sqrt_any (n : Int) (w : World) (h : okI n) : Calls Try.prog 22 #[.int .i64 n] w (SqPost n w) := by
  unfold okI at h
  by_cases h0 : n < 0
  · exact sqrt_neg n w h0 h.1
  · exact sqrt_pos n w (by omega) h.2
end Go.Proofs.Ytjnlbgmfhomepaa.Num
