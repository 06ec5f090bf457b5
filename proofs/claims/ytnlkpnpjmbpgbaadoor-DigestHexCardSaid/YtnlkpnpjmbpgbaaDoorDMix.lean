/- Contracts of digest and its reference: Mix, the bytes of a number. -/
import Derived.Test.YtnlkpnpjmbpgbaaDoorDNums
namespace Go.Proofs.YtnlkpnpjmbpgbaaDoor.Digest
open Go.RowKit
open Go.Proofs.YtnlkpnpjmbpgbaaDoor.Wire
set_option linter.unusedVariables false

/-- a number of 64 bits in two's complement -/
def un (n : Int) : Int := n % 18446744073709551616
theorem un_b (n : Int) : 0 ≤ un n ∧ un n ≤ 18446744073709551615 := by unfold un; omega
theorem wrap_un (n : Int) : IntKind.u64.wrap n = un n := IntKind.wrap_u64 n

set_option maxHeartbeats 600000 in
theorem Mix_any (d N : Int) (w : World) (h0 : 0 ≤ d) (h : d ≤ 18446744073709551615) :
    Calls Tryd.prog 15 #[.int .u64 d, .int .i64 N] w fun e w' => e = .returned (.int .u64 (ifnv d (ibeb 8 (un N)))) ∧ w = w' := by
  have c1 := hid (fun d x h0 h g0 g => continued_any d x w h0 h g0 g)
  have hU := wrap_un N
  have hub := un_b N
  generalize un N = U at *
  go_enter Tryd.func15, Tryd.ntmps15
  go_wp2_with fail
  go_loop [0, 6] (fun r i => ∃ (k : Nat) (R : Int), i = .int .i64 k ∧ k ≤ 8 ∧ r = .int .u64 R ∧ 0 ≤ R ∧ R ≤ 18446744073709551615 ∧ Hid (R = ifnv d ((ibeb 8 U).take k))) (fun _ i => 8 - (intOf i).toNat)
  case atStart => exact ⟨0, d, rfl, by omega, rfl, h0, h, hid rfl⟩
  case round =>
    obtain ⟨k, R, rfl, hk, rfl, g0, g1, hR⟩ := hrel
    by_cases hlt : k < 8
    · have hg : (ibeb 8 U).getD k 0 = U / 2 ^ (56 - 8 * k) % 256 := by
        rw [ibeb_get hub.1 hlt, show 8 * (8 - 1 - k) = 56 - 8 * k by omega]
      have hsn := hid (take_snoc (l := ibeb 8 U) (i := k) (by rw [ibeb_len]; exact hlt))
      rw [hg] at hsn
      clear hg
      have fin := hid (fun x => ifnv_snoc ((ibeb 8 U).take k) x d)
      have hx : 0 ≤ U / 2 ^ (56 - 8 * k) % 256 ∧ U / 2 ^ (56 - 8 * k) % 256 ≤ 255 := by omega
      have hyb := ifst_b R (U / 2 ^ (56 - 8 * k) % 256)
      go_wp2_with fail
      refine (c1.out _ _ g0 g1 hx.1 hx.2).mono ?_
      rintro e w' ⟨rfl, rfl⟩
      go_wp2_with fail
      go_round
      case rel => exact ⟨k + 1, _, by go_num, by omega, rfl, hyb.1, hyb.2, hid (by rw [hsn.out, fin.out, ← hR.out])⟩
      case measure => simp [intOf]; omega
    · obtain rfl : k = 8 := by omega
      go_wp2_with fail
      go_ret
      have := hR.out
      rw [take_all (by rw [ibeb_len]; omega)] at this
      exact ⟨ret1 this, rfl⟩

set_option maxHeartbeats 600000 in
theorem RBytes_any (U : Int) (c : Nat) (w : World) (h0 : 0 ≤ U) (h : U ≤ 18446744073709551615) (hc : c ≤ 8) :
    Calls Tryd.prog 17 #[.int .u64 U, .int .i64 c] w (Out2 w .u8 (ibeb c U)) := by
  go_enter Tryd.func17, Tryd.ntmps17
  go_wp2_with fail
  go_loopw [5, 6] (fun b i wr => ∃ (A' : Option Addr) (n' c' j : Nat) (I : Int), b = .slice A' n' c' ∧ i = .int .i64 I ∧ -1 ≤ I ∧ I ≤ 7 ∧ I + j + 1 = c ∧ n' = j ∧ Ow wr w.heap.size 5 .u8 A' n' c' ((ibeb c U).take j) ∧ Bl w wr) (fun _ i _ => (intOf i + 1).toNat)
  case atStart => exact ⟨none, 0, 0, 0, _, rfl, rfl, by omega, by omega, by omega, rfl, Ow.none_ _ _ _ _, Bl.refl _⟩
  case round =>
    obtain ⟨A', n', c', j, I, rfl, rfl, hI0, hI7, hIj, rfl, ho, hb⟩ := hrel
    have hsz := hb.size
    by_cases hlt : 0 ≤ I
    · obtain ⟨k, rfl⟩ : ∃ k : Nat, I = k := ⟨I.toNat, by omega⟩
      have hg : (ibeb c U).getD n' 0 = U / 2 ^ (8 * k) % 256 := by
        rw [ibeb_get h0 (by omega), show 8 * (c - 1 - n') = 8 * k by omega]
      have hsn := hid (take_snoc (l := ibeb c U) (i := n') (by rw [ibeb_len]; omega))
      rw [hg] at hsn
      clear hg
      go_wp2_with (at_builtin; refine wpList_app_own _ rfl (.tmp 13) (.tmp 19) _ rfl el8 rfl (ho.alloc _) rfl (Sh.one _ _ _ _) (by omega) (by omega) (by simp; omega) ?_; intro A2 c2 w2 ho2 hb2)
      go_roundw
      case rel => exact ⟨A2, n' + 1, c2, n' + 1, (k : Int) - 1, rfl, rfl, by omega, by omega, by omega, rfl, by rw [hsn.out]; exact ho2, Below.trans (hb.alloc _) hb2⟩
      case measure => simp [intOf]
    · obtain rfl : I = -1 := by omega
      obtain rfl : n' = c := by omega
      go_wp2_with fail
      go_ret
      rw [take_all (by rw [ibeb_len]; omega)] at ho
      exact ho.out hb

set_option maxHeartbeats 600000 in
theorem RMix_any (d N : Int) (w : World) (h0 : 0 ≤ d) (h : d ≤ 18446744073709551615) :
    Calls Tryd.prog 16 #[.int .u64 d, .int .i64 N] w fun e w' => e = .returned (.int .u64 (ifnv d (ibeb 8 (un N)))) ∧ Bl w w' := by
  have hU := wrap_un N
  have hub := un_b N
  generalize un N = U at *
  have c0 := hid (RBytes_any U 8 w hub.1 hub.2 (by omega))
  have hlen := hid (ibeb_len 8 U)
  have hby := hid (ibeb_b 8 U)
  generalize ibeb 8 U = xs at *
  go_enter Tryd.func16, Tryd.ntmps16
  go_wp2_with fail
  refine c0.out.mono ?_
  rintro e w1 ⟨A', c', rfl, hS, hc, hb⟩
  clear c0
  rw [hlen.out] at hS hc ⊢
  have c1 := hid (fun d x h0 h g0 g => step_any d x w1 h0 h g0 g)
  go_wp2_with fail
  go_loop [0, 6] (fun r i => ∃ (k : Nat) (R : Int), i = .int .i64 k ∧ k ≤ 8 ∧ r = .int .u64 R ∧ 0 ≤ R ∧ R ≤ 18446744073709551615 ∧ Hid (R = ifnv d (xs.take k))) (fun _ i => 8 - (intOf i).toNat)
  case atStart => exact ⟨0, d, rfl, by omega, rfl, h0, h, hid rfl⟩
  case round =>
    obtain ⟨k, R, rfl, hk, rfl, g0, g1, hR⟩ := hrel
    by_cases hlt : k < 8
    · obtain ⟨b, o, rfl, _, hcell⟩ := hS.2 (by omega)
      have hc1 := hcell k hlt
      have hx := byts_at hby.out k
      have hsn := hid (take_snoc (l := xs) (i := k) (by rw [hlen.out]; omega))
      clear hcell
      generalize xs.getD k 0 = x at *
      have fin := hid (ifnv_snoc (xs.take k) x d)
      have hyb := ifst_b R x
      go_wp2_with fail
      refine (c1.out _ _ g0 g1 hx.1 hx.2).mono ?_
      rintro e w' ⟨rfl, rfl⟩
      go_wp2_with fail
      go_round
      case rel => exact ⟨k + 1, _, by go_num, by omega, rfl, hyb.1, hyb.2, hid (by rw [hsn.out, fin.out, ← hR.out])⟩
      case measure => simp [intOf]; omega
    · obtain rfl : k = 8 := by omega
      go_wp2_with fail
      go_ret
      have := hR.out
      rw [take_all (by rw [hlen.out]; omega)] at this
      exact ⟨ret1 this, hb⟩
theorem RBytes4 (U : Int) (w : World) (h0 : 0 ≤ U) (h : U ≤ 18446744073709551615) :
    Calls Tryd.prog 17 #[.int .u64 U, .int .i64 4] w (OutN w .u8 4 (ibeb 4 U)) := (RBytes_any U 4 w h0 h (by omega)).mono fun _ _ g => g.at (ibeb_len 4 U)
theorem RBytes8 (U : Int) (w : World) (h0 : 0 ≤ U) (h : U ≤ 18446744073709551615) :
    Calls Tryd.prog 17 #[.int .u64 U, .int .i64 8] w (OutN w .u8 8 (ibeb 8 U)) := (RBytes_any U 8 w h0 h (by omega)).mono fun _ _ g => g.at (ibeb_len 8 U)
end Go.Proofs.YtnlkpnpjmbpgbaaDoor.Digest
