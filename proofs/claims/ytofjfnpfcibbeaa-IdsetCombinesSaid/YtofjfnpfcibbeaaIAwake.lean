/- awake of the statements about idset: it returns true. -/
import Derived.Test.YtofjfnpfcibbeaaISet
namespace Go.Proofs.Ytofjfnpfcibbeaa.Idset
open Go.RowKit
open Go.Proofs.Ytofjfnpfcibbeaa.Wire
set_option linter.unusedVariables false

theorem oks_of {l : List Int} (h : (l.all fun x => decide (-9223372036854775808 ≤ x ∧ x ≤ 9223372036854775807)) = true) : oks l := by
  intro x hx
  have := List.all_eq_true.1 h x hx
  simpa using this
def okl (l : List Int) : Bool := l.all fun x => decide (-9223372036854775808 ≤ x ∧ x ≤ 9223372036854775807)
theorem nrm_at (l z : List Int) (hb : okl l = true) (hl : l.length ≤ 1000) (h : nrm l = z) (A : Option Addr) (c : Nat) (w : World) (hc : l.length ≤ c) (hS : Sh w w.heap.size .i64 A l.length l) :
    Calls Try.prog 15 #[.slice A l.length c] w (OutN w .i64 z.length z) := by
  subst h
  exact (Normal_any A l.length c l w hS hc (oks_of hb) (by omega)).mono fun _ _ g => g.at rfl
theorem vld_at (l : List Int) (z : Bool) (hb : okl l = true) (hl : l.length ≤ 1000) (h : vld l = z) (A : Option Addr) (c : Nat) (w : World) (hc : l.length ≤ c) (hS : Sh w w.heap.size .i64 A l.length l) :
    Calls Try.prog 11 #[.slice A l.length c] w fun e w' => e = .returned (.bool z) ∧ Bl w w' := by
  subst h
  exact Valid_any A l.length c l w hS hc (oks_of hb) (by omega)
theorem has_at (l : List Int) (N : Int) (z : Bool) (hb : okl l = true) (hN : okl [N] = true) (hl : l.length ≤ 1000) (h : hasb l N = z) (A : Option Addr) (c : Nat) (w : World) (hc : l.length ≤ c) (hS : Sh w w.heap.size .i64 A l.length l) :
    Calls Try.prog 13 #[.slice A l.length c, .int .i64 N] w fun e w' => e = .returned (.bool z) ∧ Bl w w' := by
  subst h
  have := oks_of hN N (by simp)
  exact Has_any A l.length c l N w hS hc (oks_of hb) this.1 this.2 (by omega)
theorem uni_at (l m z : List Int) (hb : okl l = true) (hb' : okl m = true) (hl : l.length ≤ 1000) (hl' : m.length ≤ 1000) (h : uni l m = z) (A A' : Option Addr) (c c' : Nat) (w : World) (hc : l.length ≤ c) (hc' : m.length ≤ c') (hS : Sh w w.heap.size .i64 A l.length l) (hS' : Sh w w.heap.size .i64 A' m.length m) :
    Calls Try.prog 18 #[.slice A l.length c, .slice A' m.length c'] w (OutN w .i64 z.length z) := by
  subst h
  exact (Union_any A l.length c l A' m.length c' m w hS hS' hc hc' (oks_of hb) (oks_of hb') (by omega) (by omega)).mono fun _ _ g => g.at rfl
theorem int_at (l m z : List Int) (hb : okl l = true) (hb' : okl m = true) (hl : l.length ≤ 1000) (hl' : m.length ≤ 1000) (h : int l m = z) (A A' : Option Addr) (c c' : Nat) (w : World) (hc : l.length ≤ c) (hc' : m.length ≤ c') (hS : Sh w w.heap.size .i64 A l.length l) (hS' : Sh w w.heap.size .i64 A' m.length m) :
    Calls Try.prog 20 #[.slice A l.length c, .slice A' m.length c'] w (OutN w .i64 z.length z) := by
  subst h
  exact (Inter_any A l.length c l A' m.length c' m w hS hS' hc hc' (oks_of hb) (oks_of hb') (by omega) (by omega)).mono fun _ _ g => g.at rfl
theorem mns_at (l m z : List Int) (hb : okl l = true) (hb' : okl m = true) (hl : l.length ≤ 1000) (hl' : m.length ≤ 1000) (h : mns l m = z) (A A' : Option Addr) (c c' : Nat) (w : World) (hc : l.length ≤ c) (hc' : m.length ≤ c') (hS : Sh w w.heap.size .i64 A l.length l) (hS' : Sh w w.heap.size .i64 A' m.length m) :
    Calls Try.prog 22 #[.slice A l.length c, .slice A' m.length c'] w (OutN w .i64 z.length z) := by
  subst h
  exact (Minus_any A l.length c l A' m.length c' m w hS hS' hc hc' (oks_of hb) (oks_of hb') (by omega) (by omega)).mono fun _ _ g => g.at rfl
theorem same_at (xs : List Int) (hl : xs.length ≤ 1000) (A A' : Option Addr) (c c' : Nat) (w : World) (hS : Sh w w.heap.size .i64 A xs.length xs) (hS' : Sh w w.heap.size .i64 A' xs.length xs) :
    Calls Try.prog 16 #[.slice A xs.length c, .slice A' xs.length c'] w fun e w' => e = .returned (.bool true) ∧ Q w w' := Same_yes A A' _ _ c c' xs xs w hS hS' (by omega) (by omega) rfl

set_option maxRecDepth 100000 in
set_option maxHeartbeats 2000000 in
theorem awake_any (w : World) : Calls Try.prog 10 #[] w fun e w' => e = .returned (.bool true) ∧ Bl w w' := by
  have k1 := hid (nrm_at [3, 1, 3, 2] [1, 2, 3] (by decide) (by decide) (by decide +kernel))
  have k2 := hid (vld_at [1, 1] false (by decide) (by decide) (by decide +kernel))
  have k3 := hid (vld_at [2, 4] true (by decide) (by decide) (by decide +kernel))
  have k4 := hid (uni_at [1, 2, 3] [2, 4] [1, 2, 3, 4] (by decide) (by decide) (by decide) (by decide) (by decide +kernel))
  have k5 := hid (int_at [1, 2, 3] [2, 4] [2] (by decide) (by decide) (by decide) (by decide) (by decide +kernel))
  have k6 := hid (mns_at [1, 2, 3] [2, 4] [1, 3] (by decide) (by decide) (by decide) (by decide) (by decide +kernel))
  have k7 := hid (has_at [3, 1] 1 true (by decide) (by decide) (by decide) (by decide +kernel))
  have k8 := hid (has_at [1, 2, 3] 4 false (by decide) (by decide) (by decide) (by decide +kernel))
  have s1 := hid (same_at [1, 2, 3] (by decide))
  have s2 := hid (same_at [1, 2, 3, 4] (by decide))
  have s3 := hid (same_at [2] (by decide))
  have s4 := hid (same_at [1, 3] (by decide))
  have hA0 : Sh (w.alloc (.cells #[.int .i64 1, .int .i64 2, .int .i64 3] 3)) (w.alloc (.cells #[.int .i64 1, .int .i64 2, .int .i64 3] 3)).heap.size .i64 (some ⟨w.heap.size, 0, none⟩) 3 [1, 2, 3] := Sh.made w .i64 3 [1, 2, 3] _ rfl rfl
  have hA1 := hA0.al (.cells #[.int .i64 2, .int .i64 4] 3)
  have hB1 : Sh ((w.alloc (.cells #[.int .i64 1, .int .i64 2, .int .i64 3] 3)).alloc (.cells #[.int .i64 2, .int .i64 4] 3)) _ .i64 (some ⟨w.heap.size + 1, 0, none⟩) 2 [2, 4] := Sh.made _ .i64 3 [2, 4] _ rfl (by simp)
  clear hA0
  simp only [List.length_cons, List.length_nil, Nat.zero_add, Nat.reduceAdd] at k1 k2 k3 k4 k5 k6 k7 k8 s1 s2 s3 s4
  go_enter Try.func10, Try.ntmps10
  go_wp2_with fail
  refine (k1.out _ _ _ (by decide) ?_).mono ?_
  · exact Sh.made _ _ _ _ _ rfl (by simp)
  rintro e w1 ⟨A1, c1, rfl, hs1, hc1, hb1⟩
  have hA2 := (hA1.al _).bl hb1
  have hB2 := (hB1.al _).bl hb1
  have B1 : Bl w w1 := Bl.trans ((((Bl.refl w).alloc _).alloc _).alloc _) hb1
  clear hA1 hB1 hb1
  go_wp2_with fail
  refine (s1.out _ _ _ _ _ hs1 hA2).mono ?_
  rintro e w2 ⟨rfl, hq⟩
  have hA3 := hA2.bl hq.bl
  have hB3 := hB2.bl hq.bl
  have B2 := B1.q hq
  clear hA2 hB2 hs1 hc1 hq B1
  go_wp2_with fail
  refine (k2.out _ _ _ (by decide) ?_).mono ?_
  · exact Sh.made _ _ _ _ _ rfl (by simp)
  rintro e w3 ⟨rfl, hb⟩
  have hA4 := (hA3.al _).bl hb
  have hB4 := (hB3.al _).bl hb
  have B3 := (B2.alloc _).trans hb
  clear hA3 hB3 B2 hb
  go_wp2_with fail
  refine (k3.out _ _ _ (by decide) hB4).mono ?_
  rintro e w4 ⟨rfl, hb⟩
  have hA5 := hA4.bl hb
  have hB5 := hB4.bl hb
  have B4 := B3.trans hb
  clear hA4 hB4 B3 hb
  go_wp2_with fail
  refine (k4.out _ _ _ _ _ (by decide) (by decide) hA5 hB5).mono ?_
  rintro e v5 ⟨A5, c5, rfl, hs5, hc5, hb5⟩
  have hA5' := (hA5.bl hb5).al
  have hB5' := (hB5.bl hb5).al
  have C5 := B4.trans hb5
  clear hA5 hB5 B4 hb5 hc5
  go_wp2_with fail
  refine (s2.out _ _ _ _ _ (hs5.al _) ?_).mono ?_
  · exact Sh.made _ _ _ _ _ rfl (by simp)
  rintro e w5 ⟨rfl, hq⟩
  have hA6 := (hA5' _).bl hq.bl
  have hB6 := (hB5' _).bl hq.bl
  have B5 := (C5.alloc _).q hq
  clear hA5' hB5' C5 hq hs5
  go_wp2_with fail
  refine (k5.out _ _ _ _ _ (by decide) (by decide) hA6 hB6).mono ?_
  rintro e v6 ⟨A6, c6, rfl, hs6, hc6, hb6⟩
  have hA6' := (hA6.bl hb6).al
  have hB6' := (hB6.bl hb6).al
  have C6 := B5.trans hb6
  clear hA6 hB6 B5 hb6 hc6
  go_wp2_with fail
  refine (s3.out _ _ _ _ _ (hs6.al _) ?_).mono ?_
  · exact Sh.made _ _ _ _ _ rfl (by simp)
  rintro e w6 ⟨rfl, hq⟩
  have hA7 := (hA6' _).bl hq.bl
  have hB7 := (hB6' _).bl hq.bl
  have B6 := (C6.alloc _).q hq
  clear hA6' hB6' C6 hq hs6
  go_wp2_with fail
  refine (k6.out _ _ _ _ _ (by decide) (by decide) hA7 hB7).mono ?_
  rintro e v7 ⟨A7, c7, rfl, hs7, hc7, hb7⟩
  have hA7' := (hA7.bl hb7).al
  have hB7' := (hB7.bl hb7).al
  have C7 := B6.trans hb7
  clear hA7 hB7 B6 hb7 hc7
  go_wp2_with fail
  refine (s4.out _ _ _ _ _ (hs7.al _) ?_).mono ?_
  · exact Sh.made _ _ _ _ _ rfl (by simp)
  rintro e w7 ⟨rfl, hq⟩
  have hA8 := (hA7' _).bl hq.bl
  have hB8 := (hB7' _).bl hq.bl
  have B7 := (C7.alloc _).q hq
  clear hA7' hB7' C7 hq hs7
  clear hB8
  go_wp2_with fail
  refine (k7.out _ _ _ (by decide) ?_).mono ?_
  · exact Sh.made _ _ _ _ _ rfl (by simp)
  rintro e w8 ⟨rfl, hb⟩
  have hA9 := (hA8.al _).bl hb
  have B8 := (B7.alloc _).trans hb
  clear hA8 B7 hb
  go_wp2_with fail
  refine (k8.out _ _ _ (by decide) hA9).mono ?_
  rintro e w9 ⟨rfl, hb⟩
  have B9 := B8.trans hb
  go_wp2_with fail
  go_ret
  exact ⟨rfl, B9⟩
end Go.Proofs.Ytofjfnpfcibbeaa.Idset
