/- Contracts of the small functions of layer 1 (num) and of its reference: absolute values, numbers with a sign, the greatest common divisor. -/
import Derived.Test.YtjdkgndecnhokaaRows
import Derived.WalkKit
import Derived.WalkSpells
import Derived.WalkLawsBesides
import Derived.Deep.QuietTactic
import Derived.BigQuiet
import Derived.Test.YtjdkgndecnhokaaPlain
namespace Go.Proofs.Ytjdkgndecnhokaa.Num
open Go.RowKit

theorem hid {p : Prop} (h : p) : Hid p := h
theorem ret1 {k : IntKind} {a b : Int} (h : a = b) : Ending.returned (.int k a) = .returned (.int k b) := by rw [h]
theorem ret2 {j k : IntKind} {a b c d : Int} (h : a = b) (g : c = d) : Ending.returned (.tuple #[.int j a, .int k c]) = .returned (.tuple #[.int j b, .int k d]) := by rw [h, g]
theorem retB {a b : Bool} (h : a = b) : Ending.returned (.bool a) = .returned (.bool b) := by rw [h]

theorem wrap_abs (n : Int) (h1 : -9223372036854775808 ≤ n) (h : n < 0) : IntKind.u64.wrap (-IntKind.u64.wrap n) = (n.natAbs : Int) := by
  rw [IntKind.wrap_u64, IntKind.wrap_u64]; omega
theorem wrap_back (u : Int) (h0 : 0 ≤ u) (h : u ≤ 9223372036854775808) : wrap64 (IntKind.u64.wrap (-u)) = -u := by
  rw [IntKind.wrap_u64]; unfold wrap64; omega

set_option maxHeartbeats 400000 in
theorem magnitude_any (n : Int) (w : World) (h1 : -9223372036854775808 ≤ n) (h2 : n ≤ 9223372036854775807) :
    Calls Try.prog 53 #[.int .i64 n] w fun e w' => e = .returned (.int .u64 (n.natAbs : Int)) ∧ w = w' := by
  by_cases h : n < 0
  · go_enter Try.func53, Try.ntmps53
    go_wp2
    go_ret
    exact ⟨ret1 (wrap_abs n h1 h), rfl⟩
  · go_enter Try.func53, Try.ntmps53
    go_wp2
    go_ret
    exact ⟨ret1 (by omega), rfl⟩

set_option maxHeartbeats 400000 in
theorem signed_any (u : Int) (neg : Bool) (w : World) (h0 : 0 ≤ u) (hu : u ≤ 18446744073709551615) :
    Calls Try.prog 51 #[.int .u64 u, .bool neg] w fun e w' => e = .returned (.tuple #[.int .i64 (rv (sg u neg)), .int .i64 (re (sg u neg))]) ∧ w = w' := by
  cases neg
  · by_cases h : u < 9223372036854775808
    · have hb := hid (ok_pos h0 h)
      go_enter Try.func51, Try.ntmps51
      go_wp2
      go_ret2
      exact ⟨ret2 (by rw [rv_ok hb.out]; rfl) (by rw [re_ok hb.out]), rfl⟩
    · have hb := hid (no_pos h)
      go_enter Try.func51, Try.ntmps51
      go_wp2
      go_ret2
      exact ⟨ret2 (by rw [rv_no hb.out]) (by rw [re_no hb.out]), rfl⟩
  · by_cases h : u ≤ 9223372036854775808
    · have hb := hid (ok_neg h0 h)
      go_enter Try.func51, Try.ntmps51
      go_wp2
      go_ret2
      exact ⟨ret2 (by rw [rv_ok hb.out]; exact wrap_back u h0 h) (by rw [re_ok hb.out]), rfl⟩
    · have hb := hid (no_neg h)
      go_enter Try.func51, Try.ntmps51
      go_wp2
      go_ret2
      exact ⟨ret2 (by rw [rv_no hb.out]) (by rw [re_no hb.out]), rfl⟩

/-- only draws -/
def Q (w w' : World) : Prop := ∃ n, w' = w.drewN n

theorem Q.refl (w : World) : Q w w := ⟨0, rfl⟩
theorem Q.drewN {w w1 : World} (h : Q w w1) (n : Nat) : Q w (w1.drewN n) := by
  obtain ⟨m, rfl⟩ := h
  exact ⟨m + n, by rw [World.drewN_drewN]⟩
theorem Q.trans {w w1 w2 : World} (h : Q w w1) (g : Q w1 w2) : Q w w2 := by
  obtain ⟨n, rfl⟩ := g
  exact h.drewN n

theorem gcd_zero (a : Int) (h : 0 ≤ a) : (Int.gcd a 0 : Int) = a := by simp [Int.gcd]; omega
theorem gcd_step (a b : Int) (ha : 0 ≤ a) (hb : 0 < b) : Int.gcd b (a % b) = Int.gcd a b := by
  obtain ⟨x, rfl⟩ := Int.eq_ofNat_of_zero_le ha
  obtain ⟨y, rfl⟩ := Int.eq_ofNat_of_zero_le (Int.le_of_lt hb)
  rw [← Int.natCast_emod, Int.gcd_natCast_natCast, Int.gcd_natCast_natCast, Nat.gcd_comm, ← Nat.gcd_rec, Nat.gcd_comm]

set_option maxHeartbeats 400000 in
theorem gcd_any (u v : Int) (w : World) (h0 : 0 ≤ u) (h1 : 0 ≤ v) (hu : u ≤ 18446744073709551615) (hv : v ≤ 18446744073709551615) :
    Calls Try.prog 52 #[.int .u64 u, .int .u64 v] w fun e w' => e = .returned (.int .u64 (Int.gcd u v : Int)) ∧ Q w w' := by
  go_enter Try.func52, Try.ntmps52
  go_wp2
  go_loopw [0, 1] (fun x y wr => ∃ a b : Int, 0 ≤ a ∧ 0 ≤ b ∧ a ≤ 18446744073709551615 ∧ b ≤ 18446744073709551615 ∧ x = .int .u64 a ∧ y = .int .u64 b ∧ Hid (Int.gcd a b = Int.gcd u v) ∧ Q w wr) (fun _ y _ => (intOf y).toNat)
  case atStart => exact ⟨u, v, h0, h1, hu, hv, rfl, rfl, hid rfl, 0, rfl⟩
  case round =>
    obtain ⟨a, b, ha0, hb0, ha, hb, rfl, rfl, HG, hq⟩ := hrel
    by_cases hz : b = 0
    · subst hz
      go_wp2
      go_ret
      exact ⟨ret1 (by rw [← HG.out, gcd_zero a ha0]), hq⟩
    · have h1 : 0 < b := by omega
      have hm := Int.emod_nonneg a hz
      have hl := Int.emod_lt_of_pos a h1
      have hs := hid (gcd_step a b ha0 h1)
      clear hz
      go_wp2
      go_quiet (fail)
      go_wp2
      go_roundw
      case rel => exact ⟨b, a % b, hb0, hm, hb, by omega, rfl, rfl, hid (hs.out.trans HG.out), hq.drewN _⟩
      case measure => simp [intOf]; omega

theorem quiet_same {P : Program} {f : FuncId} {args : Array Value} {w W : World} {v : Value} (hW : ∃ m, W = w.drewN m)
    (h : Calls P f args W fun e w' => e = .returned v ∧ W = w') : Calls P f args W fun e w' => e = .returned v ∧ ∃ m, w' = w.drewN m :=
  h.mono fun _ _ ⟨he, hw⟩ => ⟨he, by rw [← hw]; exact hW⟩
theorem quiet_q {P : Program} {f : FuncId} {args : Array Value} {w W : World} {v : Value} (hW : ∃ m, W = w.drewN m)
    (h : Calls P f args W fun e w' => e = .returned v ∧ Q W w') : Calls P f args W fun e w' => e = .returned v ∧ ∃ m, w' = w.drewN m :=
  h.mono fun _ _ ⟨he, n, hn⟩ => by
    obtain ⟨m, rfl⟩ := hW
    exact ⟨he, m + n, by rw [hn, World.drewN_drewN]⟩
end Go.Proofs.Ytjdkgndecnhokaa.Num
