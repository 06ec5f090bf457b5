/- Contracts of idset: Has, Valid, Normal, Union, Inter, Minus. -/
import Derived.Test.YtofjfnpfcibbeaaISift
namespace Go.Proofs.Ytofjfnpfcibbeaa.Idset
open Go.RowKit
open Go.Proofs.Ytofjfnpfcibbeaa.Wire
set_option linter.unusedVariables false

theorem contains_hasb (xs : List Int) (N : Int) : xs.contains N = hasb xs N := by
  unfold hasb
  by_cases h : N ∈ xs
  · rw [decide_eq_true h]; simpa using h
  · rw [decide_eq_false h]; simpa using h

theorem Has_any (A : Option Addr) (n c : Nat) (xs : List Int) (N : Int) (w : World) (hS : Sh w w.heap.size .i64 A n xs) (hc : n ≤ c) (ho : oks xs) (h1 : -9223372036854775808 ≤ N) (h2 : N ≤ 9223372036854775807) (hm : n ≤ 100000) :
    Calls Try.prog 13 #[.slice A n c, .int .i64 N] w fun e w' => e = .returned (.bool (hasb xs N)) ∧ Bl w w' := by
  have hl := hS.len
  by_cases h0 : n = 0
  · subst h0
    have hx : xs = [] := List.eq_nil_of_length_eq_zero hl
    subst hx
    have r := hid (Try.slices_Contains_int_empty A c N w)
    go_enter Try.func13, Try.ntmps13
    go_wp2_with fail
    refine r.out.mono ?_
    rintro e w' ⟨rfl, rfl⟩
    go_wp2_with fail
    go_ret
    exact ⟨retB (by simp [hasb]), Bl.refl _⟩
  · obtain ⟨b, o, rfl, _, hcell⟩ := hS.2 (by omega)
    have r := Try.slices_Contains_int b o n c xs N w (by omega) (by omega) (by rw [hl]; exact hcell)
    rw [take_all (by omega), contains_hasb] at r
    have R := hid r
    clear r hcell
    generalize hasb xs N = E at *
    go_enter Try.func13, Try.ntmps13
    go_wp2_with fail
    refine R.out.mono ?_
    rintro e w' ⟨rfl, rfl⟩
    go_wp2_with fail
    go_ret
    exact ⟨rfl, Bl.refl _⟩
set_option maxHeartbeats 600000 in
theorem Valid_any (A : Option Addr) (n c : Nat) (xs : List Int) (w : World) (hS : Sh w w.heap.size .i64 A n xs) (hc : n ≤ c) (ho : oks xs) (hm : n ≤ 100000) :
    Calls Try.prog 11 #[.slice A n c] w fun e w' => e = .returned (.bool (vld xs)) ∧ Bl w w' := by
  have hl := hid hS.len
  go_enter Try.func11, Try.ntmps11
  go_wp2_with fail
  go_loopw [3] (fun i wr => ∃ (k : Nat), i = .int .i64 ((k : Int) + 1) ∧ k ≤ n ∧ Hid (∀ i, i < k → i + 1 < n → xs.getD i 0 < xs.getD (i + 1) 0) ∧ Q w wr) (fun i _ => n + 1 - (intOf i).toNat)
  case atStart => exact ⟨0, rfl, by omega, hid (fun i h => by omega), Q.refl _⟩
  case round =>
    obtain ⟨k, rfl, hk, hp, hq⟩ := hrel
    by_cases hlt : k + 1 < n
    · obtain ⟨b, o, rfl, _, hcell⟩ := (hS.bl hq.bl).2 (by omega)
      have hc1 := hcell k (by omega)
      have hc2 := hcell (k + 1) hlt
      clear hcell
      have i1 : (0 : Int) ≤ (k : Int) + 1 := by omega
      have i2 : (k : Int) + 1 < (n : Int) := by omega
      have i3 : ((k : Int) + 1).toNat = k + 1 := by omega
      by_cases hxy : xs.getD k 0 < xs.getD (k + 1) 0
      · have hp' := hid (show ∀ i, i < k + 1 → i + 1 < n → xs.getD i 0 < xs.getD (i + 1) 0 from fun i h1 h2 => by
          by_cases e : i = k
          · subst e; exact hxy
          · exact hp.out i (by omega) h2)
        generalize xs.getD k 0 = x at hc1 hxy
        generalize xs.getD (k + 1) 0 = y at hc2 hxy
        go_wp2_with fail
        go_quiet (fail)
        go_wp2_with fail
        go_roundw
        case rel => exact ⟨k + 1, by go_num, by omega, hp', hq.drewN _⟩
        case measure => simp [intOf]; omega
      · have fin := hid (show vld xs = false by
          unfold vld
          rw [decide_eq_false]
          intro h
          exact hxy ((asc_step xs).1 h k (by rw [hl.out]; exact hlt)))
        generalize xs.getD k 0 = x at hc1 hxy
        generalize xs.getD (k + 1) 0 = y at hc2 hxy
        have hyx : y ≤ x := by omega
        go_wp2_with fail
        go_quiet (fail)
        go_wp2_with fail
        go_ret
        exact ⟨retB fin.out.symm, (hq.drewN _).bl⟩
    · have fin := hid (show vld xs = true by
        unfold vld
        rw [decide_eq_true]
        exact (asc_step xs).2 fun i hi => hp.out i (by have := hl.out; omega) (by have := hl.out; omega))
      go_wp2_with fail
      go_ret
      exact ⟨retB fin.out.symm, hq.bl⟩
theorem sift_inter (xs ys : List Int) : sift (nrm xs) (nrm ys) true = int xs ys :=
  asc_ext (filter_asc (nrm_asc xs) _) (int_asc _ _) fun x => by
    unfold sift
    rw [List.mem_filter, nrm_mem, int_mem, hasb_nrm]
    unfold hasb
    simp
theorem sift_minus (xs ys : List Int) : sift (nrm xs) (nrm ys) false = mns xs ys :=
  asc_ext (filter_asc (nrm_asc xs) _) (mns_asc _ _) fun x => by
    unfold sift
    rw [List.mem_filter, nrm_mem, mns_mem, hasb_nrm]
    unfold hasb
    simp
set_option maxHeartbeats 600000 in
theorem Normal_any (A : Option Addr) (n c : Nat) (xs : List Int) (w : World) (hS : Sh w w.heap.size .i64 A n xs) (hc : n ≤ c) (ho : oks xs) (hm : n ≤ 100000) :
    Calls Try.prog 15 #[.slice A n c] w (Out2 w .i64 (nrm xs)) := by
  have R := fun T => hid (setOf_one A n c xs w T hS (by omega))
  generalize nrm xs = E at *
  go_enter Try.func15, Try.ntmps15
  go_wp2_with fail
  refine (R _).out.mono ?_
  rintro e w2 ⟨A2, c2, rfl, hs2, hc2, hb2⟩
  have hb : Bl w w2 := Bl.trans ((Bl.refl w).alloc _) hb2
  clear hb2
  go_wp2_with fail
  go_ret
  exact ⟨A2, c2, rfl, hs2, hc2, hb⟩
set_option maxHeartbeats 600000 in
theorem Union_any (A : Option Addr) (n c : Nat) (xs : List Int) (A1 : Option Addr) (n1 c1 : Nat) (ys : List Int) (w : World) (hS : Sh w w.heap.size .i64 A n xs) (hS1 : Sh w w.heap.size .i64 A1 n1 ys) (hc : n ≤ c) (hc1 : n1 ≤ c1) (ho : oks xs) (ho1 : oks ys) (hm : n ≤ 100000) (hm1 : n1 ≤ 100000) :
    Calls Try.prog 18 #[.slice A n c, .slice A1 n1 c1] w (Out2 w .i64 (uni xs ys)) := by
  have R := fun T => hid (setOf_two A A1 n c n1 c1 xs ys w T hS hS1 (by omega))
  generalize uni xs ys = E at *
  go_enter Try.func18, Try.ntmps18
  go_wp2_with fail
  refine (R _).out.mono ?_
  rintro e w2 ⟨A2, c2, rfl, hs2, hc2, hb2⟩
  have hb : Bl w w2 := Bl.trans ((Bl.refl w).alloc _) hb2
  clear hb2
  go_wp2_with fail
  go_ret
  exact ⟨A2, c2, rfl, hs2, hc2, hb⟩
set_option maxHeartbeats 600000 in
theorem Inter_any (A : Option Addr) (n c : Nat) (xs : List Int) (A1 : Option Addr) (n1 c1 : Nat) (ys : List Int) (w : World) (hS : Sh w w.heap.size .i64 A n xs) (hS1 : Sh w w.heap.size .i64 A1 n1 ys) (hc : n ≤ c) (hc1 : n1 ≤ c1) (ho : oks xs) (ho1 : oks ys) (hm : n ≤ 100000) (hm1 : n1 ≤ 100000) :
    Calls Try.prog 20 #[.slice A n c, .slice A1 n1 c1] w (Out2 w .i64 (int xs ys)) := by
  have r := sifted_any A n c xs A1 n1 c1 ys true w hS hS1 (by omega) (by omega)
  rw [sift_inter] at r
  have R := hid r
  clear r
  generalize int xs ys = E at *
  go_enter Try.func20, Try.ntmps20
  go_wp2_with fail
  refine R.out.mono ?_
  rintro e w2 ⟨A2, c2, rfl, hs2, hc2, hb2⟩
  go_wp2_with fail
  go_ret
  exact ⟨A2, c2, rfl, hs2, hc2, hb2⟩
set_option maxHeartbeats 600000 in
theorem Minus_any (A : Option Addr) (n c : Nat) (xs : List Int) (A1 : Option Addr) (n1 c1 : Nat) (ys : List Int) (w : World) (hS : Sh w w.heap.size .i64 A n xs) (hS1 : Sh w w.heap.size .i64 A1 n1 ys) (hc : n ≤ c) (hc1 : n1 ≤ c1) (ho : oks xs) (ho1 : oks ys) (hm : n ≤ 100000) (hm1 : n1 ≤ 100000) :
    Calls Try.prog 22 #[.slice A n c, .slice A1 n1 c1] w (Out2 w .i64 (mns xs ys)) := by
  have r := sifted_any A n c xs A1 n1 c1 ys false w hS hS1 (by omega) (by omega)
  rw [sift_minus] at r
  have R := hid r
  clear r
  generalize mns xs ys = E at *
  go_enter Try.func22, Try.ntmps22
  go_wp2_with fail
  refine R.out.mono ?_
  rintro e w2 ⟨A2, c2, rfl, hs2, hc2, hb2⟩
  go_wp2_with fail
  go_ret
  exact ⟨A2, c2, rfl, hs2, hc2, hb2⟩
end Go.Proofs.Ytofjfnpfcibbeaa.Idset
