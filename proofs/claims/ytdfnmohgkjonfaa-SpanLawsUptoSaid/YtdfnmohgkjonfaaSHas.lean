/- Contracts of span: Has, Total. -/
import Derived.Test.YtdfnmohgkjonfaaSMinus
import Derived.Shelf.SlSortCmp.QuietGrown
namespace Go.Proofs.Ytdfnmohgkjonfaa.Span
open Go.RowKit
open Go.Proofs.Ytdfnmohgkjonfaa.Wire
set_option linter.unusedVariables false

theorem Bl.grown {w w1 : World} (h : Bl w w1) (q : Nat) (os : Array Obj) : Bl w (Sort.grow (w1.drewN q) os) := by
  refine Bl.trans h ⟨rfl, rfl, rfl, by simp [World.drewN], fun k hk => ?_⟩
  rw [Sort.heap_grow_old _ _ (by simpa [World.drewN] using hk)]; rfl
theorem emptyG_any (p : Pr) (W : World) : Calls Try.prog 31 #[.agg #[.int .i64 p.1, .int .i64 p.2]] W fun e w' => e = .returned (.bool (!ne p)) ∧ ∃ q os', w' = Sort.grow (W.drewN q) os' := by
  obtain ⟨x, y⟩ := p
  have t : Hid (decide (y ≤ x) = !ne (x, y)) := hid (by unfold ne; simp)
  show Calls Try.prog 31 #[.agg #[.int .i64 x, .int .i64 y]] W _
  go_enter Try.func31, Try.ntmps31
  go_wp2_with fail
  go_ret
  exact ⟨retB t.out, 0, _, by rw [Sort.alloc_eq_grow]; rfl⟩

set_option maxHeartbeats 1000000 in
theorem Has_any (A : Option Addr) (n c : Nat) (ps : List Pr) (N : Int) (w : World) (hS : ShP w w.heap.size A n ps) (hc : n ≤ c) (ho : okp ps) (h1 : -9223372036854775808 ≤ N) (h2 : N ≤ 9223372036854775807) (hm : n ≤ 67108864) :
    Calls Try.prog 18 #[.slice A n c, .int .i64 N] w fun e w' => e = .returned (.bool (inb ps N)) ∧ Bl w w' := by
  have hl := hid hS.len
  go_enter Try.func18, Try.ntmps18
  go_wp2_with fail
  go_loopw [9] (fun i wr => ∃ (k : Nat), i = .int .i64 k ∧ k ≤ n ∧ Hid (inb (ps.take k) N = false) ∧ Bl w wr) (fun i _ => n - (intOf i).toNat)
  case atStart => exact ⟨0, rfl, by omega, hid rfl, Bl.refl _⟩
  case round =>
    obtain ⟨k, rfl, hk, hn, hb⟩ := hrel
    by_cases hlt : k < n
    · obtain ⟨b, o, rfl, _, hcell⟩ := (hS.bl hb).2 (by omega)
      have hc1 := (hcell k hlt).1
      have hc2 := (hcell k hlt).2
      have hsn := hid (take_snocP (l := ps) (i := k) (by rw [hl.out]; omega))
      have hall := hid (show inb ps N = (inb (ps.take (k + 1)) N || inb (ps.drop (k + 1)) N) by rw [← inb_app, List.take_append_drop])
      clear hcell
      generalize ps.getD k (0, 0) = p at *
      obtain ⟨x, y⟩ := p
      simp only at hc1 hc2
      have hs := hid (inb_snoc (ps.take k) (x, y) N)
      by_cases hx : x ≤ N
      · by_cases hy : N < y
        · have fin := hid (show inb ps N = true by rw [hall.out, hsn.out, hs.out]; simp [hx, hy])
          go_wp2_with fail
          go_ret
          exact ⟨retB fin.out.symm, hb.alloc _⟩
        · have t1 : decide (N < y) = false := by simpa using hy
          have fin : Hid (inb (ps.take (k + 1)) N = false) := hid (by rw [hsn.out, hs.out, hn.out]; simp [hy])
          clear hy
          go_wp2_with fail
          go_roundw
          case rel => exact ⟨k + 1, by go_num, by omega, fin, hb.alloc _⟩
          case measure => simp [intOf]; omega
      · have t1 : decide (x ≤ N) = false := by simpa using hx
        have fin : Hid (inb (ps.take (k + 1)) N = false) := hid (by rw [hsn.out, hs.out, hn.out]; simp [hx])
        clear hx
        go_wp2_with fail
        go_roundw
        case rel => exact ⟨k + 1, by go_num, by omega, fin, hb.alloc _⟩
        case measure => simp [intOf]; omega
    · obtain rfl : n = k := by omega
      have fin := hid (show inb ps N = false by have := hn.out; rwa [take_allP (by rw [hl.out]; exact Nat.le_refl _)] at this)
      go_wp2_with fail
      go_ret
      exact ⟨retB fin.out.symm, hb⟩

set_option maxHeartbeats 800000 in
theorem Total_any (A : Option Addr) (n c : Nat) (ps : List Pr) (w : World) (hS : ShP w w.heap.size A n ps) (hc : n ≤ c) (ho : okp ps) (hm : n ≤ 67108864) :
    Calls Try.prog 20 #[.slice A n c] w fun e w' => e = .returned (.int .i64 (ttl ps)) ∧ Bl w w' := by
  have r := hid (Normal_any A n c ps w hS hc ho hm)
  have hn := nor_len ps
  rw [hS.len] at hn
  have hv := hid (nor_vd ps)
  have hok := hid (oks_nor ho)
  have ht := hid (show ttl ps = if tot (nor ps) ≤ 9223372036854775807 then tot (nor ps) else 0 from rfl)
  generalize ttl ps = T at *
  generalize nor ps = R at *
  go_enter Try.func20, Try.ntmps20
  go_wp2_with fail
  refine r.out.mono ?_
  rintro e w0 ⟨A2, c2, rfl, hs, hc2, hb⟩
  clear r
  go_wp2_with fail
  go_loopw [3, 9] (fun v i wr => ∃ (k : Nat) (N : Int), i = .int .i64 k ∧ v = .int .u64 N ∧ k ≤ R.length ∧ 0 ≤ N ∧ N ≤ 18446744073709551615 ∧ Hid (N = tot (R.take k)) ∧ Bl w0 wr) (fun _ i _ => R.length - (intOf i).toNat)
  case atStart => exact ⟨0, 0, rfl, rfl, by omega, by decide, by decide, hid rfl, Bl.refl _⟩
  case round =>
    obtain ⟨k, N, rfl, rfl, hk, h0, h1, hN, hq⟩ := hrel
    by_cases hlt : k < R.length
    · obtain ⟨b, o, rfl, _, hcell⟩ := (hs.bl hq).2 (by omega)
      obtain ⟨hc1, hc3⟩ := hcell k hlt
      have hsn := take_snocP (l := R) (i := k) hlt
      have hb1 := tot_b64 (vd_take hv.out (k + 1)) (okp_take hok.out (k + 1))
      rw [hsn, tot_app] at hb1
      simp only [tot] at hb1
      have fin := hid (show N + ((R.getD k (0, 0)).2 - (R.getD k (0, 0)).1) = tot (R.take (k + 1)) by rw [hsn, tot_app, hN.out]; simp only [tot]; omega)
      have hb2 : 0 ≤ N + ((R.getD k (0, 0)).2 - (R.getD k (0, 0)).1) ∧ N + ((R.getD k (0, 0)).2 - (R.getD k (0, 0)).1) ≤ 18446744073709551615 := by have := hN.out; omega
      clear hsn hcell hb1
      generalize R.getD k (0, 0) = p at *
      obtain ⟨x, y⟩ := p
      simp only at hc1 hc3 fin hb2
      have hwr := wrap_add N x y
      rw [IntKind.wrap_u64 (N + (y - x)), Int.emod_eq_of_lt hb2.1 (by omega)] at hwr
      generalize N + (y - x) = M at *
      go_wp2_with fail
      go_roundw
      case rel => exact ⟨k + 1, M, by go_num, by go_num, by omega, hb2.1, hb2.2, fin, hq.alloc _⟩
      case measure => simp [intOf]; omega
    · obtain rfl : k = R.length := by omega
      have hN2 : Hid (N = tot R) := hid (by have := hN.out; rwa [take_allP (Nat.le_refl _)] at this)
      by_cases hbig : N ≤ 9223372036854775807
      · have hT : Hid (T = N) := hid (by rw [ht.out, ← hN2.out, if_pos hbig])
        go_wp2_with fail
        go_ret
        exact ⟨ret1 hT.out.symm, hb.trans hq⟩
      · have hT : Hid (T = 0) := hid (by rw [ht.out, ← hN2.out, if_neg hbig])
        go_wp2_with fail
        go_ret
        exact ⟨ret1 hT.out.symm, hb.trans hq⟩
end Go.Proofs.Ytdfnmohgkjonfaa.Span
