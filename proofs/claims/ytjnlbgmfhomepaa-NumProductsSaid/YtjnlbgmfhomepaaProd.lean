/- Contracts of the reference's product and MulDiv. -/
import Derived.Test.YtjnlbgmfhomepaaDivs
import Derived.Test.YtjnlbgmfhomepaaMulPlain
import Derived.Test.YtjnlbgmfhomepaaProdPlain
namespace Go.Proofs.Ytjnlbgmfhomepaa.Num
open Go.RowKit
set_option linter.unusedVariables false

/-- what product returns: the quotient and the remainder of x * y by z, or a quotient greater than 2^63 -/
def PF (x y z q r : Int) (k : Bool) : Prop := (k = true ∧ q = x * y / z ∧ r = x * y % z ∧ q ≤ 9223372036854775809) ∨ (k = false ∧ 9223372036854775808 < x * y / z)
def PPost (x y z : Int) (w : World) (e : Ending) (w' : World) : Prop := ∃ (q r : Int) (k : Bool), e = .returned (.tuple #[.int .u64 q, .int .u64 r, .bool k]) ∧ PF x y z q r k ∧ Q w w'

set_option maxRecDepth 100000 in
set_option maxHeartbeats 4000000 in
theorem product_any (x y z : Int) (w : World) (x0 : 0 ≤ x) (x1 : x ≤ 9223372036854775808) (y0 : 0 ≤ y) (y1 : y ≤ 9223372036854775808) (z0 : 1 ≤ z) (z1 : z ≤ 9223372036854775808) :
    Calls Try.prog 38 #[.int .u64 x, .int .u64 y, .int .u64 z] w (PPost x y z w) := by
  have hys := hid (show y = z * (y / z) + y % z by have := Int.mul_ediv_add_emod y z; omega)
  have s0 : 0 ≤ y / z := Int.ediv_nonneg y0 (by omega)
  have s1 : y / z ≤ 9223372036854775808 := Int.le_trans (Int.ediv_le_self z y0) y1
  have t0 : 0 ≤ y % z := Int.emod_nonneg _ (by omega)
  have t1 : y % z < z := Int.emod_lt_of_pos _ (by omega)
  have tm : y.tmod z = y % z := Int.tmod_eq_emod_of_nonneg y0
  go_enter Try.func38, Try.ntmps38
  go_wp2
  go_loopw [9, 10, 11] (fun a b c wr => ∃ i q r : Int, a = .int .u64 q ∧ b = .int .u64 r ∧ c = .int .i64 i ∧ -1 ≤ i ∧ i ≤ 63 ∧ Hid (PI (x / 2 ^ (i + 1).toNat) y z q r) ∧ 0 ≤ q ∧ q ≤ 9223372036854775809 ∧ 0 ≤ r ∧ r < z ∧ Q w wr) (fun _ _ c _ => (intOf c + 1).toNat)
  case atStart => exact ⟨63, 0, 0, rfl, rfl, rfl, by omega, by omega, hid (by rw [bit_top x x0 (by omega)]; exact pi_start y z z0), by omega, by omega, by omega, by omega, Q.refl w⟩
  case round =>
    obtain ⟨i, q, r, rfl, rfl, rfl, i0, i1, hp, q0, q1, r0, r1, hw⟩ := hrel
    by_cases hi : 0 ≤ i
    · have hbs := bit_step x i x0 hi
      obtain ⟨b0, b1⟩ := bit_le x i.toNat x0
      have hand := and_one (x / 2 ^ i.toNat) b0 (by omega)
      obtain ⟨A, hA⟩ : ∃ A : Int, A = x / 2 ^ (i + 1).toNat := ⟨_, rfl⟩
      rw [← hA] at hp hbs
      obtain ⟨b, hb⟩ : ∃ b : Int, b = x / 2 ^ i.toNat := ⟨_, rfl⟩
      have hb' := hid hb
      rw [← hb] at hbs b0 b1 hand
      clear hA
      have eb : x / 2 ^ i.toNat = b := hb.symm
      clear hb
      by_cases g1 : 4611686018427387904 < q
      · have ho := hid (pi_over hp.out z0 y0 (by omega : 2 * A ≤ x) g1)
        clear hbs hand tm
        go_wp2
        go_ret3
        exact ⟨_, _, _, rfl, .inr ⟨rfl, ho.out⟩, hw⟩
      · by_cases g2 : z ≤ 2 * r
        · have hn := hid (pi_dbl1 hp.out (by omega) g2)
          have hs' := hys.out
          have hsz := hid (fun hq hr => pi_add hn.out hs' s0 t0 t1 hq hr)
          have hsz1 := hid (fun hq hr => pi_add1 hn.out hs' s0 t0 t1 hq hr)
          have hov := hid (fun hx hq => pi_over2 (x := x) hn.out z0 y0 hx hs' t0 hq)
          clear hs'
          have hq' := hid (hn.out.2.2.2.2)
          by_cases hd : b % 2 = 0
          · have hA := hid (show 2 * A = b by omega)
            rw [hd] at hand
            clear hbs tm hd
            go_wp2
            go_roundw
            case rel => exact ⟨i - 1, 2 * q + 1, 2 * r - z, rfl, rfl, rfl, by omega, by omega, hid (by rw [show i - 1 + 1 = i from by omega, ← hb'.out, ← hA.out]; exact hn.out), by omega, by have := hq'.out; omega, by omega, by omega, hw⟩
            case measure => simp [intOf]; omega
          · have hA := hid (show 2 * A + 1 = b by omega)
            rw [show b % 2 = 1 by omega] at hand
            have hxb : 2 * A + 1 ≤ x := by omega
            clear hbs hd
            by_cases o1 : 9223372036854775808 < 2 * q + 1
            · have ho := hid (hov.out hxb (by omega))
              clear tm
              go_wp2
              go_ret3
              exact ⟨_, _, _, rfl, .inr ⟨rfl, ho.out⟩, hw⟩
            by_cases o2 : 9223372036854775808 - (2 * q + 1) < y / z
            · have ho := hid (hov.out hxb (by omega))
              clear tm
              go_wp2
              go_ret3
              exact ⟨_, _, _, rfl, .inr ⟨rfl, ho.out⟩, hw⟩
            by_cases o3 : z ≤ 2 * r - z + y % z
            · have hf := hid (hsz1.out (by omega) (by omega))
              go_wp2
              go_quiet (fail)
              go_wp2
              go_roundw
              case rel => exact ⟨i - 1, 2 * q + 1 + y / z + 1, 2 * r - z + y % z - z, rfl, rfl, rfl, by omega, by omega, hid (by rw [show i - 1 + 1 = i from by omega, ← hb'.out, ← hA.out]; exact hf.out), by omega, by omega, by omega, by omega, hw.drewN _⟩
              case measure => simp [intOf]; omega
            · have hf := hid (hsz.out (by omega) (by omega))
              go_wp2
              go_quiet (fail)
              go_wp2
              go_roundw
              case rel => exact ⟨i - 1, 2 * q + 1 + y / z, 2 * r - z + y % z, rfl, rfl, rfl, by omega, by omega, hid (by rw [show i - 1 + 1 = i from by omega, ← hb'.out, ← hA.out]; exact hf.out), by omega, by omega, by omega, by omega, hw.drewN _⟩
              case measure => simp [intOf]; omega
        · have hn := hid (pi_dbl hp.out (by omega) (by omega : 2 * r < z))
          have hs' := hys.out
          have hsz := hid (fun hq hr => pi_add hn.out hs' s0 t0 t1 hq hr)
          have hsz1 := hid (fun hq hr => pi_add1 hn.out hs' s0 t0 t1 hq hr)
          have hov := hid (fun hx hq => pi_over2 (x := x) hn.out z0 y0 hx hs' t0 hq)
          clear hs'
          have hq' := hid (hn.out.2.2.2.2)
          by_cases hd : b % 2 = 0
          · have hA := hid (show 2 * A = b by omega)
            rw [hd] at hand
            clear hbs tm hd
            go_wp2
            go_roundw
            case rel => exact ⟨i - 1, 2 * q, 2 * r, rfl, rfl, rfl, by omega, by omega, hid (by rw [show i - 1 + 1 = i from by omega, ← hb'.out, ← hA.out]; exact hn.out), by omega, by have := hq'.out; omega, by omega, by omega, hw⟩
            case measure => simp [intOf]; omega
          · have hA := hid (show 2 * A + 1 = b by omega)
            rw [show b % 2 = 1 by omega] at hand
            have hxb : 2 * A + 1 ≤ x := by omega
            clear hbs hd
            by_cases o1 : 9223372036854775808 < 2 * q
            · have ho := hid (hov.out hxb (by omega))
              clear tm
              go_wp2
              go_ret3
              exact ⟨_, _, _, rfl, .inr ⟨rfl, ho.out⟩, hw⟩
            by_cases o2 : 9223372036854775808 - (2 * q) < y / z
            · have ho := hid (hov.out hxb (by omega))
              clear tm
              go_wp2
              go_ret3
              exact ⟨_, _, _, rfl, .inr ⟨rfl, ho.out⟩, hw⟩
            by_cases o3 : z ≤ 2 * r + y % z
            · have hf := hid (hsz1.out (by omega) (by omega))
              go_wp2
              go_quiet (fail)
              go_wp2
              go_roundw
              case rel => exact ⟨i - 1, 2 * q + y / z + 1, 2 * r + y % z - z, rfl, rfl, rfl, by omega, by omega, hid (by rw [show i - 1 + 1 = i from by omega, ← hb'.out, ← hA.out]; exact hf.out), by omega, by omega, by omega, by omega, hw.drewN _⟩
              case measure => simp [intOf]; omega
            · have hf := hid (hsz.out (by omega) (by omega))
              go_wp2
              go_quiet (fail)
              go_wp2
              go_roundw
              case rel => exact ⟨i - 1, 2 * q + y / z, 2 * r + y % z, rfl, rfl, rfl, by omega, by omega, hid (by rw [show i - 1 + 1 = i from by omega, ← hb'.out, ← hA.out]; exact hf.out), by omega, by omega, by omega, by omega, hw.drewN _⟩
              case measure => simp [intOf]; omega
    · have hl := hid (show i = -1 by omega)
      clear tm
      go_wp2
      go_ret3
      have hp' := hp.out
      rw [hl.out] at hp'
      have he := pi_end (x := x) (by simpa using hp') z0
      exact ⟨_, _, _, rfl, .inl ⟨rfl, he.1, he.2, q1⟩, hw⟩
end Go.Proofs.Ytjnlbgmfhomepaa.Num
