/- Contracts of digest and its reference that only compute: the checksum, FNV-1a. -/
import Derived.Test.YtnlkpnpjmbpgbaaDoorGKit
import Derived.Test.YtnlkpnpjmbpgbaaDoorDPlain2
import Derived.Laws.BitsAllLaws
namespace Go.Proofs.YtnlkpnpjmbpgbaaDoor.Digest
open Go.RowKit
open Go.Proofs.YtnlkpnpjmbpgbaaDoor.Wire
set_option linter.unusedVariables false

theorem el8 : El Tryd.prog 22 5 .u8 1 := ⟨Tryd.underlying22, info_parts (by kernel_rfl)⟩

/-- the table's variable holds the table -/
def Tab (w : World) : Prop := 0 < w.heap.size ∧ ∀ i, i < 16 → w.cell? ⟨0, i, none⟩ = some (.int .u32 (tab.getD i 0))
theorem Tab.bl {w w' : World} (h : Tab w) (hb : Bl w w') : Tab w' :=
  ⟨Nat.lt_of_lt_of_le h.1 hb.size, fun i hi => (hb.cell (p := ⟨0, i, none⟩) h.1).trans (h.2 i hi)⟩
theorem Tab.q {w w' : World} (h : Tab w) (hq : Q w w') : Tab w' := h.bl hq.bl
theorem Tab.al {w : World} (h : Tab w) (o : Obj) : Tab (w.alloc o) := h.bl ((Bl.refl w).alloc o)

theorem and15 (r : Int) (h0 : 0 ≤ r) (h : r ≤ 4294967295) : bits .and .u32 r 15 = r % 16 := by
  rw [u32_and _ _ (by omega) (by omega) (by omega) (by omega)]
  have : r.toNat &&& (15 : Int).toNat = r.toNat % 2 ^ 4 := Nat.and_two_pow_sub_one_eq_mod r.toNat 4
  rw [this]; omega
theorem shift_is (r : Int) (h0 : 0 ≤ r) (h : r ≤ 4294967295) : bits .xor .u32 (r / 16) (tab.getD (r % 16).toNat 0) = icb4 r := by
  have ht := tab_is ⟨r.toNat % 16, by omega⟩
  simp only at ht
  have e : (r % 16).toNat = r.toNat % 16 := by omega
  rw [e, ← ht]
  have hc : cb4 (r.toNat % 16) < 4294967296 := cb4_lt (by omega)
  rw [u32_xor _ _ (by omega) (by omega) (by omega) (by omega)]
  unfold icb4
  rw [cb4_tab r.toNat]
  have e2 : (r / 16).toNat = r.toNat / 16 := by omega
  rw [e2]
  rfl

set_option maxHeartbeats 400000 in
theorem shiftFour_any (r : Int) (w : World) (h0 : 0 ≤ r) (h1 : r ≤ 4294967295) (hT : Tab w) :
    Calls Tryd.prog 25 #[.int .u32 r] w fun e w' => e = .returned (.int .u32 (icb4 r)) ∧ w = w' := by
  have hs := hid (shift_is r h0 h1)
  have hc := hT.2 (r % 16).toNat (by omega)
  have ha := and15 r h0 h1
  obtain ⟨k, hk⟩ : ∃ k : Nat, r % 16 = k := ⟨(r % 16).toNat, by omega⟩
  have hk16 : k < 16 := by omega
  rw [hk] at hc ha
  rw [Int.toNat_natCast] at hc
  rw [hk] at hs
  rw [Int.toNat_natCast] at hs
  clear hk
  generalize tab.getD k 0 = T at *
  go_enter Tryd.func25, Tryd.ntmps25
  go_wp2_with fail
  go_ret
  exact ⟨ret1 hs.out, rfl⟩

theorem xor32 (r x : Int) (h0 : 0 ≤ r) (h : r ≤ 4294967295) (g0 : 0 ≤ x) (g : x ≤ 255) : bits .xor .u32 r x = ixor r x := u32_xor _ _ h0 (by omega) g0 (by omega)
theorem compl32 (x : Int) (h0 : 0 ≤ x) (h : x ≤ 4294967295) : bits .xor .u32 IntKind.u32.max x = 4294967295 - x := by
  have hm : IntKind.u32.max = 4294967295 := by decide
  rw [hm, u32_xor _ _ (by omega) (by omega) h0 (by omega)]
  have := compl_xor (x := x.toNat) (by omega)
  rw [show (4294967295 : Int).toNat = 4294967295 by rfl, ← this]
  omega

set_option maxHeartbeats 600000 in
theorem Crc_any (A : Option Addr) (n c : Nat) (xs : List Int) (w : World) (B : Nat) (hS : Sh w B .u8 A n xs) (hb : byts xs) (hT : Tab w) (hm : n ≤ 140737488355328) :
    Calls Tryd.prog 10 #[.slice A n c] w fun e w' => e = .returned (.int .i64 (icrc xs)) ∧ w = w' := by
  have hl := hS.len
  have c1 := hid (fun r h0 h1 => shiftFour_any r w h0 h1 hT)
  have hT := hid hT
  have hb := hid hb
  go_enter Tryd.func10, Tryd.ntmps10
  go_wp2_with fail
  go_loop [3, 8] (fun r i => ∃ (k : Nat) (R : Int), i = .int .i64 k ∧ k ≤ n ∧ r = .int .u32 R ∧ 0 ≤ R ∧ R ≤ 4294967295 ∧ Hid (R = ireg (xs.take k))) (fun _ i => n - (intOf i).toNat)
  case atStart => exact ⟨0, _, rfl, by omega, rfl, by decide, by decide, hid rfl⟩
  case round =>
    obtain ⟨k, R, rfl, hk, rfl, h0, h1, hR⟩ := hrel
    by_cases hlt : k < n
    · obtain ⟨b, o, rfl, _, hcell⟩ := hS.2 (by omega)
      have hc1 := hcell k hlt
      have hx := byts_at hb.out k
      have hsn := hid (take_snoc (l := xs) (i := k) (by omega))
      clear hcell
      generalize xs.getD k 0 = x at *
      have hxo := xor32 R x h0 h1 hx.1 hx.2
      have hxb := ixor_b h0 h1 (show x ≤ 4294967295 by omega)
      have fin := hid (ireg_snoc (xs.take k) x)
      generalize hY : ixor R x = Y at *
      have HY := hid hY
      clear hY
      have hyb := icb4_b hxb.1 hxb.2
      have hzb := icb4_b hyb.1 hyb.2
      go_wp2_with fail
      refine (c1.out _ hxb.1 hxb.2).mono ?_
      rintro e w' ⟨rfl, rfl⟩
      go_wp2_with fail
      refine (c1.out _ hyb.1 hyb.2).mono ?_
      rintro e w' ⟨rfl, rfl⟩
      go_wp2_with fail
      go_round
      case rel => exact ⟨k + 1, _, by go_num, by omega, rfl, hzb.1, hzb.2, hid (by rw [hsn.out, fin.out, ← hR.out, HY.out])⟩
      case measure => simp [intOf]; omega
    · obtain rfl : k = n := by omega
      have hcm := compl32 R h0 h1
      go_wp2_with fail
      go_ret
      have := hR.out
      rw [take_all (by omega)] at this
      exact ⟨ret1 (by unfold icrc wrap64; omega), rfl⟩

theorem icb_odd (r : Int) (h0 : 0 ≤ r) (h : r ≤ 4294967295) (ho : r % 2 = 1) : bits .xor .u32 (r / 2) 3988292384 = icb r := by
  rw [u32_xor _ _ (by omega) (by omega) (by omega) (by omega)]
  unfold icb cb
  rw [if_pos (by omega)]
  have e2 : (r / 2).toNat = r.toNat / 2 := by omega
  rw [e2]; rfl
theorem icb_even (r : Int) (h0 : 0 ≤ r) (ho : r % 2 = 0) : r / 2 = icb r := by
  unfold icb cb
  rw [if_neg (by omega)]
  omega

set_option maxHeartbeats 1000000 in
theorem RCrc_any (A : Option Addr) (n c : Nat) (xs : List Int) (w : World) (B : Nat) (hS : Sh w B .u8 A n xs) (hb : byts xs) (hm : n ≤ 140737488355328) :
    Calls Tryd.prog 11 #[.slice A n c] w fun e w' => e = .returned (.int .i64 (icrc xs)) ∧ w = w' := by
  have hl := hS.len
  have hb := hid hb
  go_enter Tryd.func11, Tryd.ntmps11
  go_wp2_with fail
  go_loop [3, 4] (fun r i => ∃ (k : Nat) (R : Int), i = .int .i64 k ∧ k ≤ n ∧ r = .int .u32 R ∧ 0 ≤ R ∧ R ≤ 4294967295 ∧ Hid (R = ireg (xs.take k))) (fun _ i => n - (intOf i).toNat)
  case atStart => exact ⟨0, _, rfl, by omega, rfl, by decide, by decide, hid rfl⟩
  case round =>
    obtain ⟨k, R, rfl, hk, rfl, h0, h1, hR⟩ := hrel
    by_cases hlt : k < n
    · obtain ⟨b, o, rfl, _, hcell⟩ := hS.2 (by omega)
      have hc1 := hcell k hlt
      have hx := byts_at hb.out k
      have hsn := hid (take_snoc (l := xs) (i := k) (by omega))
      clear hcell
      generalize xs.getD k 0 = x at *
      have hxo := xor32 R x h0 h1 hx.1 hx.2
      have hxb := ixor_b h0 h1 (show x ≤ 4294967295 by omega)
      have fin := hid (ireg_snoc8 (xs.take k) x)
      generalize hY : ixor R x = Y at *
      have HY := hid hY
      clear hY
      go_wp2_with fail
      go_loop [3, 5] (fun r i => ∃ (j : Nat) (S : Int), i = .int .i64 j ∧ j ≤ 8 ∧ r = .int .u32 S ∧ 0 ≤ S ∧ S ≤ 4294967295 ∧ Hid (S = icbn j Y)) (fun _ i => 8 - (intOf i).toNat)
      case atStart => exact ⟨0, _, rfl, by omega, rfl, hxb.1, hxb.2, hid rfl⟩
      case round =>
        obtain ⟨j, S, rfl, hj, rfl, g0, g1, hS'⟩ := hrel
        by_cases hj8 : j < 8
        · have hb8 := icb_b g0 g1
          rcases (show S % 2 = 1 ∨ S % 2 = 0 by omega) with ho | ho
          · have e1 := icb_odd S g0 g1 ho
            go_wp2_with fail
            go_round
            case rel => exact ⟨j + 1, _, by go_num, by omega, rfl, hb8.1, hb8.2, hid (by rw [icbn, ← hS'.out])⟩
            case measure => simp [intOf]; omega
          · have e1 := hid (icb_even S g0 ho)
            have t : ((0 : Int) == 1) = false := rfl
            go_wp2_with fail
            go_round
            case rel => exact ⟨j + 1, _, by go_num, by omega, rfl, by omega, by omega, hid (by rw [icbn, ← hS'.out, e1.out])⟩
            case measure => simp [intOf]; omega
        · obtain rfl : j = 8 := by omega
          go_wp2_with fail
          go_round
          case rel => exact ⟨k + 1, _, by go_num, by omega, rfl, g0, g1, hid (by rw [hsn.out, fin.out, ← hR.out, HY.out, ← hS'.out])⟩
          case measure => simp [intOf]; omega
    · obtain rfl : k = n := by omega
      have hcm := compl32 R h0 h1
      go_wp2_with fail
      go_ret
      have := hR.out
      rw [take_all (by omega)] at this
      exact ⟨ret1 (by unfold icrc wrap64; omega), rfl⟩

theorem fst_step (d x : Int) (h0 : 0 ≤ d) (h : d ≤ 18446744073709551615) (g0 : 0 ≤ x) (g : x ≤ 255) : IntKind.u64.wrap (bits .xor .u64 d x * 1099511628211) = ifst d x := by
  rw [u64_xor _ _ h0 (by omega) g0 (by omega), IntKind.wrap_u64]
  unfold ifst fst
  rw [Int.natCast_emod, Int.natCast_mul]
  rfl
set_option maxHeartbeats 400000 in
theorem continued_any (d x : Int) (w : World) (h0 : 0 ≤ d) (h : d ≤ 18446744073709551615) (g0 : 0 ≤ x) (g : x ≤ 255) :
    Calls Tryd.prog 26 #[.int .u64 d, .int .u8 x] w fun e w' => e = .returned (.int .u64 (ifst d x)) ∧ w = w' := by
  have hf := fst_step d x h0 h g0 g
  generalize ifst d x = F at *
  go_enter Tryd.func26, Tryd.ntmps26
  go_wp2_with fail
  go_ret
  exact ⟨rfl, rfl⟩
set_option maxHeartbeats 400000 in
theorem step_any (d x : Int) (w : World) (h0 : 0 ≤ d) (h : d ≤ 18446744073709551615) (g0 : 0 ≤ x) (g : x ≤ 255) :
    Calls Tryd.prog 27 #[.int .u64 d, .int .u8 x] w fun e w' => e = .returned (.int .u64 (ifst d x)) ∧ w = w' := by
  have hf := fst_step d x h0 h g0 g
  generalize ifst d x = F at *
  go_enter Tryd.func27, Tryd.ntmps27
  go_wp2_with fail
  go_ret
  exact ⟨rfl, rfl⟩

def fnv0 : Int := 14695981039346656037
theorem fnv0_b : 0 ≤ fnv0 ∧ fnv0 ≤ 18446744073709551615 := by decide
set_option maxHeartbeats 600000 in
theorem Fnv_any (A : Option Addr) (n c : Nat) (xs : List Int) (w : World) (B : Nat) (hS : Sh w B .u8 A n xs) (hb : byts xs) (hm : n ≤ 140737488355328) :
    Calls Tryd.prog 12 #[.slice A n c] w fun e w' => e = .returned (.int .u64 (ifnv fnv0 xs)) ∧ w = w' := by
  have hl := hS.len
  have c1 := hid (fun d x h0 h g0 g => continued_any d x w h0 h g0 g)
  have hb := hid hb
  go_enter Tryd.func12, Tryd.ntmps12
  go_wp2_with fail
  go_loop [2, 7] (fun r i => ∃ (k : Nat) (R : Int), i = .int .i64 k ∧ k ≤ n ∧ r = .int .u64 R ∧ 0 ≤ R ∧ R ≤ 18446744073709551615 ∧ Hid (R = ifnv fnv0 (xs.take k))) (fun _ i => n - (intOf i).toNat)
  case atStart => exact ⟨0, fnv0, rfl, by omega, rfl, by decide, by decide, hid rfl⟩
  case round =>
    obtain ⟨k, R, rfl, hk, rfl, h0, h1, hR⟩ := hrel
    by_cases hlt : k < n
    · obtain ⟨b, o, rfl, _, hcell⟩ := hS.2 (by omega)
      have hc1 := hcell k hlt
      have hx := byts_at hb.out k
      have hsn := hid (take_snoc (l := xs) (i := k) (by omega))
      clear hcell
      generalize xs.getD k 0 = x at *
      have fin := hid (ifnv_snoc (xs.take k) x fnv0)
      have hyb := ifst_b R x
      go_wp2_with fail
      refine (c1.out _ _ h0 h1 hx.1 hx.2).mono ?_
      rintro e w' ⟨rfl, rfl⟩
      go_wp2_with fail
      go_round
      case rel => exact ⟨k + 1, _, by go_num, by omega, rfl, hyb.1, hyb.2, hid (by rw [hsn.out, fin.out, ← hR.out])⟩
      case measure => simp [intOf]; omega
    · obtain rfl : k = n := by omega
      go_wp2_with fail
      go_ret
      have := hR.out
      rw [take_all (by omega)] at this
      exact ⟨ret1 this, rfl⟩
set_option maxHeartbeats 600000 in
theorem RFnv_any (A : Option Addr) (n c : Nat) (xs : List Int) (w : World) (B : Nat) (hS : Sh w B .u8 A n xs) (hb : byts xs) (hm : n ≤ 140737488355328) :
    Calls Tryd.prog 13 #[.slice A n c] w fun e w' => e = .returned (.int .u64 (ifnv fnv0 xs)) ∧ w = w' := by
  have hl := hS.len
  have c1 := hid (fun d x h0 h g0 g => step_any d x w h0 h g0 g)
  have hb := hid hb
  go_enter Tryd.func13, Tryd.ntmps13
  go_wp2_with fail
  go_loop [3, 4] (fun r i => ∃ (k : Nat) (R : Int), i = .int .i64 k ∧ k ≤ n ∧ r = .int .u64 R ∧ 0 ≤ R ∧ R ≤ 18446744073709551615 ∧ Hid (R = ifnv fnv0 (xs.take k))) (fun _ i => n - (intOf i).toNat)
  case atStart => exact ⟨0, fnv0, rfl, by omega, rfl, by decide, by decide, hid rfl⟩
  case round =>
    obtain ⟨k, R, rfl, hk, rfl, h0, h1, hR⟩ := hrel
    by_cases hlt : k < n
    · obtain ⟨b, o, rfl, _, hcell⟩ := hS.2 (by omega)
      have hc1 := hcell k hlt
      have hx := byts_at hb.out k
      have hsn := hid (take_snoc (l := xs) (i := k) (by omega))
      clear hcell
      generalize xs.getD k 0 = x at *
      have fin := hid (ifnv_snoc (xs.take k) x fnv0)
      have hyb := ifst_b R x
      go_wp2_with fail
      refine (c1.out _ _ h0 h1 hx.1 hx.2).mono ?_
      rintro e w' ⟨rfl, rfl⟩
      go_wp2_with fail
      go_round
      case rel => exact ⟨k + 1, _, by go_num, by omega, rfl, hyb.1, hyb.2, hid (by rw [hsn.out, fin.out, ← hR.out])⟩
      case measure => simp [intOf]; omega
    · obtain rfl : k = n := by omega
      go_wp2_with fail
      go_ret
      have := hR.out
      rw [take_all (by omega)] at this
      exact ⟨ret1 this, rfl⟩
end Go.Proofs.YtnlkpnpjmbpgbaaDoor.Digest
