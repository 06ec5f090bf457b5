/- Contracts of the reference of geom: gcd, square; the reduced fraction of a squared distance. -/
import Derived.Test.YtjdkgndecnhokaaEMeet2
import Derived.Laws.BitsLemmas
import Derived.Laws.BitsAllLaws
namespace Go.Proofs.Ytjdkgndecnhokaa.Geom
open Go.RowKit
open Go.Proofs.Ytjdkgndecnhokaa.Wire
set_option linter.unusedVariables false

theorem gcd_sq (C M : Nat) (hM : 0 < M) : Nat.gcd (C * C) M = Nat.gcd C M * Nat.gcd C (M / Nat.gcd C M) := by
  have hg : 0 < Nat.gcd C M := Nat.gcd_pos_of_pos_right _ hM
  obtain ⟨x, hx⟩ := Nat.gcd_dvd_left C M
  obtain ⟨y, hy⟩ := Nat.gcd_dvd_right C M
  have hc : Nat.Coprime x y := by
    have h1 : Nat.gcd C M = Nat.gcd C M * Nat.gcd x y := by
      have : Nat.gcd (Nat.gcd C M * x) (Nat.gcd C M * y) = Nat.gcd C M * Nat.gcd x y := Nat.gcd_mul_left _ _ _
      rw [← hx, ← hy] at this
      exact this
    have h2 : Nat.gcd C M * 1 = Nat.gcd C M * Nat.gcd x y := by rw [Nat.mul_one]; exact h1
    exact (Nat.eq_of_mul_eq_mul_left hg h2).symm
  have hd : M / Nat.gcd C M = y := by
    apply Nat.div_eq_of_eq_mul_right hg
    exact hy
  rw [hd]
  have e1 : C * C = Nat.gcd C M * (x * C) := by rw [← Nat.mul_assoc, ← hx]
  have e2 : Nat.gcd (C * C) M = Nat.gcd (Nat.gcd C M * (x * C)) (Nat.gcd C M * y) := by rw [← e1, ← hy]
  rw [e2, Nat.gcd_mul_left, Nat.Coprime.gcd_mul_left_cancel C hc]
theorem red_parts (C M : Nat) (hM : 0 < M) : C * C / Nat.gcd (C * C) M = C / Nat.gcd C M * (C / Nat.gcd C (M / Nat.gcd C M)) ∧ M / Nat.gcd (C * C) M = M / Nat.gcd C M / Nat.gcd C (M / Nat.gcd C M) := by
  rw [gcd_sq C M hM]
  refine ⟨?_, (Nat.div_div_eq_div_mul _ _ _).symm⟩
  exact (Nat.div_mul_div_comm (Nat.gcd_dvd_left C M) (Nat.gcd_dvd_left C _)).symm

set_option maxHeartbeats 1000000 in
theorem RGcd8_any (a b : Nat) (w : World) (ha : a ≤ 1125899906842624) (hb : b ≤ 1125899906842624) :
    Calls Try.prog 45 #[.int .i64 a, .int .i64 b] w fun e w' => e = .returned (.int .i64 (Nat.gcd a b : Nat)) ∧ Q w w' := by
  go_enter Try.func45, Try.ntmps45
  go_wp2_with fail
  go_loopw [0, 1] (fun x y wr => ∃ (p q : Nat), x = .int .i64 p ∧ y = .int .i64 q ∧ p ≤ 1125899906842624 ∧ q ≤ 1125899906842624 ∧ Hid (Nat.gcd p q = Nat.gcd a b) ∧ Q w wr) (fun _ y _ => (intOf y).toNat)
  case atStart => exact ⟨a, b, rfl, rfl, ha, hb, hid rfl, Q.refl _⟩
  case round =>
    obtain ⟨p, q, rfl, rfl, hp, hq, hg, hQ⟩ := hrel
    by_cases h0 : 0 < q
    · have i0 : (0 : Int) < (q : Int) := by omega
      have i1 : ¬ (q : Int) = 0 := by omega
      have t1 : ((q : Int) == 0) = false := beq_eq_false_iff_ne.2 i1
      have hlt := Nat.mod_lt p h0
      have hg2 := hid (show Nat.gcd q (p % q) = Nat.gcd a b by rw [← hg.out, Nat.gcd_comm p q, Nat.gcd_rec q p, Nat.gcd_comm])
      go_wp2_with fail
      go_quiet (fail)
      go_wp2_with fail
      go_roundw
      case rel => exact ⟨q, p % q, rfl, by rw [Int.natCast_emod], by omega, by omega, hg2, hQ.drewN _⟩
      case measure => simp [intOf]; rw [← Int.natCast_emod]; omega
    · obtain rfl : q = 0 := by omega
      go_wp2_with fail
      go_ret
      have := hg.out
      rw [Nat.gcd_zero_right] at this
      exact ⟨ret1 (by rw [this]), hQ⟩

/-- one digit more of the factor -/
theorem sq_step (c n p b q r : Nat) (hn : 0 < n) (hq : q = p * c / n) (hr : r = p * c % n) :
    (2 * p + b) * c / n = 2 * q + b * (c / n) + (2 * r + b * (c % n)) / n ∧ (2 * p + b) * c % n = (2 * r + b * (c % n)) % n := by
  have e1 : p * c = n * q + r := by rw [hq, hr]; exact (Nat.div_add_mod (p * c) n).symm
  have e2 : c = n * (c / n) + c % n := (Nat.div_add_mod c n).symm
  have e3 : (2 * p + b) * c = (2 * r + b * (c % n)) + n * (2 * q + b * (c / n)) := by
    have h1 : (2 * p + b) * c = 2 * (p * c) + b * c := by grind
    have h2 : b * c = b * (n * (c / n) + c % n) := by rw [← e2]
    rw [h1, e1, h2]; grind
  rw [e3]
  refine ⟨?_, Nat.add_mul_mod_self_left _ _ _⟩
  rw [Nat.add_mul_div_left _ _ hn]; omega
theorem and_i64 (a b : Nat) (ha : a < 9223372036854775808) (hb : b < 9223372036854775808) : bits .and .i64 (a : Int) (b : Int) = ((a &&& b : Nat) : Int) := by
  have hx : a &&& b < 2 ^ 63 := Nat.and_lt_two_pow _ (by omega)
  have h1 : (BitVec.ofInt 64 (a : Int)).toNat = a := by
    rw [BitVec.ofInt_natCast, BitVec.toNat_ofNat]; exact Nat.mod_eq_of_lt (by omega)
  have h2 : (BitVec.ofInt 64 (b : Int)).toNat = b := by
    rw [BitVec.ofInt_natCast, BitVec.toNat_ofNat]; exact Nat.mod_eq_of_lt (by omega)
  show IntKind.i64.wrap ((BitVec.ofInt 64 (a : Int) &&& BitVec.ofInt 64 (b : Int)).toNat : Int) = _
  rw [BitVec.toNat_and, h1, h2, IntKind.wrap_i64]
  omega
theorem and_pow_zero (c k : Nat) : c &&& 2 ^ k = 0 ↔ c.testBit k = false := by
  constructor
  · intro h
    have := congrArg (fun x => x.testBit k) h
    simp only [Nat.testBit_and, Nat.testBit_two_pow_self, Bool.and_true, Nat.zero_testBit] at this
    exact this
  · intro h
    apply Nat.eq_of_testBit_eq
    intro i
    rw [Nat.testBit_and, Nat.testBit_two_pow, Nat.zero_testBit]
    by_cases e : k = i
    · subst e; rw [h]; rfl
    · rw [decide_eq_false e, Bool.and_false]
theorem and_bit (c k : Nat) (hc : c < 9223372036854775808) (hk : k ≤ 46) : (bits .and .i64 (c : Int) ((2 : Int) ^ k) != 0) = decide (c / 2 ^ k % 2 = 1) := by
  have hp : (2 : Nat) ^ k ≤ 2 ^ 46 := Nat.pow_le_pow_right (by decide) hk
  have e : ((2 : Int) ^ k) = (((2 : Nat) ^ k : Nat) : Int) := by simp
  rw [e, and_i64 c (2 ^ k) hc (by omega)]
  have ht : c.testBit k = decide (c / 2 ^ k % 2 = 1) := by rw [Nat.testBit_eq_decide_div_mod_eq]
  have hz := and_pow_zero c k
  rw [ht] at hz
  by_cases h : c / 2 ^ k % 2 = 1
  · rw [decide_eq_true h]
    rw [decide_eq_true h] at hz
    have : ¬ (c &&& 2 ^ k) = 0 := fun g => by have := hz.1 g; cases this
    exact bne_iff_ne.2 (by omega)
  · rw [decide_eq_false h]
    rw [decide_eq_false h] at hz
    rw [hz.2 rfl]; rfl
set_option maxHeartbeats 1000000 in
theorem RSquare_any (c n R : Nat) (w : World) (hc : c ≤ 70368744177663) (h0 : 0 < n) (hn : n ≤ 70368744177664) (hR : R = c * c / n) (hM : R ≤ 70368744177664) :
    Calls Try.prog 46 #[.int .i64 c, .int .i64 n] w fun e w' => e = .returned (.int .i64 R) ∧ Q w w' := by
  have HR := hid hR
  clear hR
  have hc47 : c / 2 ^ 47 = 0 := Nat.div_eq_of_lt (by omega)
  have HZ := hid hc47
  clear hc47
  go_enter Try.func46, Try.ntmps46
  go_wp2_with fail
  go_loopw [5, 6, 7] (fun x y z wr => ∃ (q r : Nat) (B : Int) (j : Nat), x = .int .i64 q ∧ y = .int .i64 r ∧ z = .int .i64 B ∧ j ≤ 47 ∧ Hid (B = if j = 0 then 0 else 2 ^ (j - 1)) ∧ Hid (q = c / 2 ^ j * c / n) ∧ Hid (r = c / 2 ^ j * c % n) ∧ Q w wr) (fun _ _ z _ => (intOf z).toNat)
  case atStart => exact ⟨0, 0, _, 47, rfl, rfl, rfl, by omega, hid (by decide), hid (by rw [HZ.out]; simp), hid (by rw [HZ.out]; simp), Q.refl _⟩
  case round =>
    obtain ⟨q, r, B, j, rfl, rfl, rfl, hj, hB, hq, hr, hQ⟩ := hrel
    by_cases hj0 : j = 0
    · have hB0 : B = 0 := by rw [hB.out, if_pos hj0]
      subst hj0
      subst hB0
      go_wp2_with fail
      go_ret
      have := hq.out
      rw [Nat.pow_zero, Nat.div_one, ← HR.out] at this
      exact ⟨ret1 (by rw [this]), hQ⟩
    · obtain ⟨k, rfl⟩ : ∃ k, j = k + 1 := ⟨j - 1, by omega⟩
      have hBk := hB.out
      rw [if_neg hj0, Nat.add_sub_cancel] at hBk
      have hbit := and_bit c k (by omega) (by omega)
      rw [← hBk] at hbit
      have b1 : 1 ≤ B := by
        rw [hBk]
        exact Int.pow_pos (by decide)
      have b2 : B ≤ 70368744177664 := by
        have h : (2 : Nat) ^ k ≤ 2 ^ 46 := Nat.pow_le_pow_right (by decide) (by omega)
        have : ((2 : Int) ^ k) = (((2 : Nat) ^ k : Nat) : Int) := by simp
        rw [hBk, this]; omega
      have hr1 : r < n := by rw [hr.out]; exact Nat.mod_lt _ h0
      have hqm : ∀ x, x ≤ c → x * c / n ≤ R := fun x hx => by rw [HR.out]; exact Nat.div_le_div_right (Nat.mul_le_mul_right c hx)
      have hq1 : q ≤ R := by rw [hq.out]; exact hqm _ (Nat.div_le_self _ _)
      have hcn : c / n ≤ 70368744177663 := Nat.le_trans (Nat.div_le_self _ _) hc
      have hcm : c % n < n := Nat.mod_lt _ h0
      -- the digit
      have hdig : c / 2 ^ k = 2 * (c / 2 ^ (k + 1)) + c / 2 ^ k % 2 := by rw [Nat.pow_succ, ← Nat.div_div_eq_div_mul]; omega
      have hnext : Hid ((B / 2 : Int) = if k = 0 then 0 else 2 ^ (k - 1)) := hid (by
        rw [hBk]
        cases k with
        | zero => decide
        | succ k => rw [if_neg (by omega), Nat.add_sub_cancel, Int.pow_succ]; omega)
      have st := fun b => sq_step c n (c / 2 ^ (k + 1)) b q r h0 hq.out hr.out
      have i0 : (0 : Int) < (n : Int) := by omega
      have i1 : ((n : Int) == 0) = false := beq_eq_false_iff_ne.2 (by omega)
      have i2 : ¬ (n : Int) = 0 := by omega
      obtain ⟨D, hD⟩ : ∃ D, D = c / n := ⟨_, rfl⟩
      obtain ⟨E, hE⟩ : ∃ E, E = c % n := ⟨_, rfl⟩
      rw [← hD] at hcn
      rw [← hE] at hcm
      have gD : (c : Int) / (n : Int) = (D : Int) := by rw [hD]; simp
      have gE : (c : Int) % (n : Int) = (E : Int) := by rw [hE]; simp
      by_cases hd1 : c / 2 ^ k % 2 = 1
      · rw [decide_eq_true hd1] at hbit
        have s1 := (st 1).1
        have s2 := (st 1).2
        have e1 : 2 * (c / 2 ^ (k + 1)) + 1 = c / 2 ^ k := by omega
        rw [e1, Nat.one_mul, Nat.one_mul, ← hD, ← hE] at s1
        rw [e1, Nat.one_mul, ← hE] at s2
        obtain ⟨Y, hY⟩ : ∃ Y, Y = (2 * r + E) / n := ⟨_, rfl⟩
        obtain ⟨Z, hZ⟩ : ∃ Z, Z = (2 * r + E) % n := ⟨_, rfl⟩
        rw [← hY] at s1
        rw [← hZ] at s2
        have gY : (2 * (r : Int) + (E : Int)) / (n : Int) = (Y : Int) := by rw [hY]; simp
        have gZ : (2 * (r : Int) + (E : Int)) % (n : Int) = (Z : Int) := by rw [hZ]; simp
        have hq2 := hqm (c / 2 ^ k) (Nat.div_le_self _ _)
        have s1h := hid s1
        have s2h := hid s2
        have hq3 : 2 * q + D + Y ≤ 70368744177664 := by omega
        clear st hD hE hY hZ s1 s2 e1 hdig hqm hq2 hBk hj0
        have p1 : ¬ B = 0 := by omega
        go_wp2_with fail
        go_quiet (fail)
        go_wp2_with fail
        go_quiet (fail)
        go_wp2_with fail
        go_roundw
        case rel => exact ⟨2 * q + D + Y, Z, B / 2, k, by go_num, by rw [gZ], rfl, by omega, hnext, hid s1h.out.symm, hid s2h.out.symm, hQ.drewN _⟩
        case measure => simp [intOf]; omega
      · rw [decide_eq_false hd1] at hbit
        have s1 := (st 0).1
        have s2 := (st 0).2
        have e1 : 2 * (c / 2 ^ (k + 1)) + 0 = c / 2 ^ k := by omega
        rw [e1, Nat.zero_mul, Nat.zero_mul, Nat.add_zero, Nat.add_zero] at s1
        rw [e1, Nat.zero_mul, Nat.add_zero] at s2
        obtain ⟨Y, hY⟩ : ∃ Y, Y = (2 * r) / n := ⟨_, rfl⟩
        obtain ⟨Z, hZ⟩ : ∃ Z, Z = (2 * r) % n := ⟨_, rfl⟩
        rw [← hY] at s1
        rw [← hZ] at s2
        have gY : (2 * (r : Int)) / (n : Int) = (Y : Int) := by rw [hY]; simp
        have gZ : (2 * (r : Int)) % (n : Int) = (Z : Int) := by rw [hZ]; simp
        have hq2 := hqm (c / 2 ^ k) (Nat.div_le_self _ _)
        have s1h := hid s1
        have s2h := hid s2
        have hq3 : 2 * q + Y ≤ 70368744177664 := by omega
        clear st hD hE hY hZ s1 s2 e1 hdig hqm hq2 hBk hj0
        have p1 : ¬ B = 0 := by omega
        go_wp2_with fail
        go_quiet (fail)
        go_wp2_with fail
        go_roundw
        case rel => exact ⟨2 * q + Y, Z, B / 2, k, by go_num, by rw [gZ], rfl, by omega, hnext, hid s1h.out.symm, hid s2h.out.symm, hQ.drewN _⟩
        case measure => simp [intOf]; omega
end Go.Proofs.Ytjdkgndecnhokaa.Geom
