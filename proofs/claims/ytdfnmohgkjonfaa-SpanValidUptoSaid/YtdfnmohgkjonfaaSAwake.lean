/- awake of the statements about span: it returns true; the reference's contracts in the form that the walks take. -/
import Derived.Test.YtdfnmohgkjonfaaSSet
namespace Go.Proofs.Ytdfnmohgkjonfaa.Span
open Go.RowKit
open Go.Proofs.Ytdfnmohgkjonfaa.Wire
set_option linter.unusedVariables false

def okl (l : List Pr) : Bool := l.all fun p => decide ((-9223372036854775808 ≤ p.1 ∧ p.1 ≤ 9223372036854775807) ∧ (-9223372036854775808 ≤ p.2 ∧ p.2 ≤ 9223372036854775807))
theorem okp_l {l : List Pr} (h : okl l = true) : okp l := by
  intro p hp
  have := List.all_eq_true.1 h p hp
  simpa using this
theorem nor_at (l z : List Pr) (hb : okl l = true) (hl : l.length ≤ 1000) (h : nor l = z) (A : Option Addr) (c : Nat) (w : World) (hc : l.length ≤ c) (hS : ShP w w.heap.size A l.length l) :
    Calls Try.prog 16 #[.slice A l.length c] w (OutP w z) := by
  subst h
  exact Normal_any A l.length c l w hS hc (okp_l hb) (by omega)
theorem vld_at (l : List Pr) (z : Bool) (hb : okl l = true) (hl : l.length ≤ 1000) (h : vdb l = z) (A : Option Addr) (c : Nat) (w : World) (hc : l.length ≤ c) (hS : ShP w w.heap.size A l.length l) :
    Calls Try.prog 13 #[.slice A l.length c] w fun e w' => e = .returned (.bool z) ∧ Bl w w' := by
  subst h
  exact Valid_any A l.length c l w hS hc (okp_l hb) (by omega)
theorem ttl_at (l : List Pr) (z : Int) (hb : okl l = true) (hl : l.length ≤ 1000) (h : ttl l = z) (A : Option Addr) (c : Nat) (w : World) (hc : l.length ≤ c) (hS : ShP w w.heap.size A l.length l) :
    Calls Try.prog 20 #[.slice A l.length c] w fun e w' => e = .returned (.int .i64 z) ∧ Bl w w' := by
  subst h
  exact Total_any A l.length c l w hS hc (okp_l hb) (by omega)
theorem has_at (l : List Pr) (N : Int) (z : Bool) (hb : okl l = true) (hN : okl [(N, N)] = true) (hl : l.length ≤ 1000) (h : inb l N = z) (A : Option Addr) (c : Nat) (w : World) (hc : l.length ≤ c) (hS : ShP w w.heap.size A l.length l) :
    Calls Try.prog 18 #[.slice A l.length c, .int .i64 N] w fun e w' => e = .returned (.bool z) ∧ Bl w w' := by
  subst h
  have := okp_l hN (N, N) (by simp)
  exact Has_any A l.length c l N w hS hc (okp_l hb) this.1.1 this.1.2 (by omega)
theorem uni_at (l m z : List Pr) (hb : okl l = true) (hb' : okl m = true) (hl : l.length ≤ 1000) (hl' : m.length ≤ 1000) (h : uni l m = z) (A A' : Option Addr) (c c' : Nat) (w : World) (hc : l.length ≤ c) (hc' : m.length ≤ c') (hS : ShP w w.heap.size A l.length l) (hS' : ShP w w.heap.size A' m.length m) :
    Calls Try.prog 22 #[.slice A l.length c, .slice A' m.length c'] w (OutP w z) := by
  subst h
  exact Union_any A l.length c l A' m.length c' m w hS hS' hc hc' (okp_l hb) (okp_l hb') (by omega) (by omega)
theorem RUnion_anx (A : Option Addr) (n c : Nat) (xs : List Pr) (A1 : Option Addr) (n1 c1 : Nat) (ys : List Pr) (w : World) (hS : ShP w w.heap.size A n xs) (hS1 : ShP w w.heap.size A1 n1 ys) (hc : n ≤ c) (hc1 : n1 ≤ c1) (ho : okp xs) (ho1 : okp ys) (hm : n ≤ 67108864) (hm1 : n1 ≤ 67108864) :
    Calls Try.prog 23 #[.slice A n c, .slice A1 n1 c1] w (OutP w (uni xs ys)) := RUnion_any A n c xs A1 n1 c1 ys w hS hS1 (by omega)
theorem int_at (l m z : List Pr) (hb : okl l = true) (hb' : okl m = true) (hl : l.length ≤ 1000) (hl' : m.length ≤ 1000) (h : int l m = z) (A A' : Option Addr) (c c' : Nat) (w : World) (hc : l.length ≤ c) (hc' : m.length ≤ c') (hS : ShP w w.heap.size A l.length l) (hS' : ShP w w.heap.size A' m.length m) :
    Calls Try.prog 24 #[.slice A l.length c, .slice A' m.length c'] w (OutP w z) := by
  subst h
  exact Inter_any A l.length c l A' m.length c' m w hS hS' hc hc' (okp_l hb) (okp_l hb') (by omega) (by omega)
theorem RInter_anx (A : Option Addr) (n c : Nat) (xs : List Pr) (A1 : Option Addr) (n1 c1 : Nat) (ys : List Pr) (w : World) (hS : ShP w w.heap.size A n xs) (hS1 : ShP w w.heap.size A1 n1 ys) (hc : n ≤ c) (hc1 : n1 ≤ c1) (ho : okp xs) (ho1 : okp ys) (hm : n ≤ 67108864) (hm1 : n1 ≤ 67108864) :
    Calls Try.prog 25 #[.slice A n c, .slice A1 n1 c1] w (OutP w (int xs ys)) := RInter_any A n c xs A1 n1 c1 ys w hS hS1 (by omega)
theorem mns_at (l m z : List Pr) (hb : okl l = true) (hb' : okl m = true) (hl : l.length ≤ 1000) (hl' : m.length ≤ 1000) (h : mns l m = z) (A A' : Option Addr) (c c' : Nat) (w : World) (hc : l.length ≤ c) (hc' : m.length ≤ c') (hS : ShP w w.heap.size A l.length l) (hS' : ShP w w.heap.size A' m.length m) :
    Calls Try.prog 26 #[.slice A l.length c, .slice A' m.length c'] w (OutP w z) := by
  subst h
  exact Minus_any A l.length c l A' m.length c' m w hS hS' hc hc' (okp_l hb) (okp_l hb') (by omega) (by omega)
theorem RMinus_anx (A : Option Addr) (n c : Nat) (xs : List Pr) (A1 : Option Addr) (n1 c1 : Nat) (ys : List Pr) (w : World) (hS : ShP w w.heap.size A n xs) (hS1 : ShP w w.heap.size A1 n1 ys) (hc : n ≤ c) (hc1 : n1 ≤ c1) (ho : okp xs) (ho1 : okp ys) (hm : n ≤ 67108864) (hm1 : n1 ≤ 67108864) :
    Calls Try.prog 27 #[.slice A n c, .slice A1 n1 c1] w (OutP w (mns xs ys)) := RMinus_any A n c xs A1 n1 c1 ys w hS hS1 (by omega)
theorem RNormal_anx (A : Option Addr) (n c : Nat) (xs : List Pr) (w : World) (hS : ShP w w.heap.size A n xs) (hc : n ≤ c) (ho : okp xs) (hm : n ≤ 67108864) :
    Calls Try.prog 17 #[.slice A n c] w (OutP w (nor xs)) := RNormal_any A n c xs w hS (by omega)
theorem same_at (xs : List Pr) (hl : xs.length ≤ 1000) (A A' : Option Addr) (c c' : Nat) (w : World) (hS : ShP w w.heap.size A xs.length xs) (hS' : ShP w w.heap.size A' xs.length xs) :
    Calls Try.prog 15 #[.slice A xs.length c, .slice A' xs.length c'] w fun e w' => e = .returned (.bool true) ∧ Q w w' := Same_yes A A' _ _ c c' xs xs w hS hS' (by omega) (by omega) rfl

set_option maxRecDepth 100000 in
set_option maxHeartbeats 2000000 in
theorem awake_any (w : World) : Calls Try.prog 12 #[] w fun e w' => e = .returned (.bool true) ∧ Bl w w' := by
  have k1 := hid (vld_at [(3, 4), (5, 9)] true (by decide) (by decide) (by decide +kernel))
  have k2 := hid (vld_at [(1, 3), (3, 6)] false (by decide) (by decide) (by decide +kernel))
  have k3 := hid (nor_at [(4, 6), (1, 3), (3, 4), (9, 9)] [(1, 6)] (by decide) (by decide) (by decide +kernel))
  have k4 := hid (has_at [(1, 6)] 5 true (by decide) (by decide) (by decide) (by decide +kernel))
  have k5 := hid (has_at [(1, 6)] 6 false (by decide) (by decide) (by decide) (by decide +kernel))
  have k6 := hid (uni_at [(1, 6)] [(3, 4), (5, 9)] [(1, 9)] (by decide) (by decide) (by decide) (by decide) (by decide +kernel))
  have k7 := hid (int_at [(1, 6)] [(3, 4), (5, 9)] [(3, 4), (5, 6)] (by decide) (by decide) (by decide) (by decide) (by decide +kernel))
  have k8 := hid (mns_at [(1, 6)] [(3, 4), (5, 9)] [(1, 3), (4, 5)] (by decide) (by decide) (by decide) (by decide) (by decide +kernel))
  have k9 := hid (ttl_at [(1, 4), (3, 5)] 4 (by decide) (by decide) (by decide +kernel))
  have s1 := hid (same_at [(1, 6)] (by decide))
  have s2 := hid (same_at [(1, 9)] (by decide))
  have s3 := hid (same_at [(3, 4), (5, 6)] (by decide))
  have s4 := hid (same_at [(1, 3), (4, 5)] (by decide))
  unfold OutP at k3 k6 k7 k8
  simp only [List.length_cons, List.length_nil, Nat.zero_add, Nat.reduceAdd] at k1 k2 k3 k4 k5 k6 k7 k8 k9 s1 s2 s3 s4
  have hA0 : ShP (w.alloc (.cells #[.int .i64 1, .int .i64 6] 34)) (w.alloc (.cells #[.int .i64 1, .int .i64 6] 34)).heap.size (some ⟨w.heap.size, 0, none⟩) 1 [(1, 6)] := ShP.made w 34 (0, 0) [(1, 6)] _ rfl rfl
  have hA1 := hA0.al (.cells #[.int .i64 3, .int .i64 4, .int .i64 5, .int .i64 9] 34)
  have hB1 : ShP ((w.alloc (.cells #[.int .i64 1, .int .i64 6] 34)).alloc (.cells #[.int .i64 3, .int .i64 4, .int .i64 5, .int .i64 9] 34)) _ (some ⟨w.heap.size + 1, 0, none⟩) 2 [(3, 4), (5, 9)] := ShP.made _ 34 (0, 0) [(3, 4), (5, 9)] _ rfl (by simp)
  have B1 : Bl w ((w.alloc (.cells #[.int .i64 1, .int .i64 6] 34)).alloc (.cells #[.int .i64 3, .int .i64 4, .int .i64 5, .int .i64 9] 34)) := ((Bl.refl w).alloc _).alloc _
  clear hA0
  go_enter Try.func12, Try.ntmps12
  go_wp2_with fail
  refine (k1.out _ _ _ (by decide) hB1).mono ?_
  rintro e w2 ⟨rfl, hb⟩
  have hA2 := hA1.bl hb
  have hB2 := hB1.bl hb
  have B2 := Bl.trans B1 hb
  clear hA1 hB1 B1 hb
  go_wp2_with fail
  refine (k2.out _ _ _ (by decide) ?_).mono ?_
  · exact ShP.made _ _ _ _ _ rfl (by simp)
  rintro e w3 ⟨rfl, hb⟩
  have hA3 := (hA2.al _).bl hb
  have hB3 := (hB2.al _).bl hb
  have B3 := Bl.trans (B2.alloc _) hb
  clear hA2 hB2 B2 hb
  go_wp2_with fail
  refine (k3.out _ _ _ (by decide) ?_).mono ?_
  · exact ShP.made _ _ _ _ _ rfl (by simp)
  rintro e w4 ⟨A3, c3, rfl, hs3, hc3, hb⟩
  have hA4 := (hA3.al _).bl hb
  have hB4 := (hB3.al _).bl hb
  have B4 := Bl.trans (B3.alloc _) hb
  clear hA3 hB3 B3 hb hc3
  go_wp2_with fail
  refine (s1.out _ _ _ _ _ hs3 hA4).mono ?_
  rintro e w5 ⟨rfl, hq⟩
  have hA5 := hA4.bl hq.bl
  have hB5 := hB4.bl hq.bl
  have B5 := Bl.q B4 hq
  clear hA4 hB4 B4 hq hs3
  go_wp2_with fail
  refine (k4.out _ _ _ (by decide) hA5).mono ?_
  rintro e w6 ⟨rfl, hb⟩
  have hA6 := hA5.bl hb
  have hB6 := hB5.bl hb
  have B6 := Bl.trans B5 hb
  clear hA5 hB5 B5 hb
  go_wp2_with fail
  refine (k5.out _ _ _ (by decide) hA6).mono ?_
  rintro e w7 ⟨rfl, hb⟩
  have hA7 := hA6.bl hb
  have hB7 := hB6.bl hb
  have B7 := Bl.trans B6 hb
  clear hA6 hB6 B6 hb
  go_wp2_with fail
  refine (k6.out _ _ _ _ _ (by decide) (by decide) hA7 hB7).mono ?_
  rintro e w8 ⟨A7, c7, rfl, hs7, hc7, hb⟩
  have hA8 := hA7.bl hb
  have hB8 := hB7.bl hb
  have B8 := Bl.trans B7 hb
  clear hA7 hB7 B7 hb hc7
  go_wp2_with fail
  refine (s2.out _ _ _ _ _ (hs7.al _) ?_).mono ?_
  · exact ShP.made _ _ _ _ _ rfl (by simp)
  rintro e w9 ⟨rfl, hq⟩
  have hA9 := (hA8.al _).bl hq.bl
  have hB9 := (hB8.al _).bl hq.bl
  have B9 := Bl.q (B8.alloc _) hq
  clear hA8 hB8 B8 hq hs7
  go_wp2_with fail
  refine (k7.out _ _ _ _ _ (by decide) (by decide) hA9 hB9).mono ?_
  rintro e w10 ⟨A9, c9, rfl, hs9, hc9, hb⟩
  have hA10 := hA9.bl hb
  have hB10 := hB9.bl hb
  have B10 := Bl.trans B9 hb
  clear hA9 hB9 B9 hb hc9
  go_wp2_with fail
  refine (s3.out _ _ _ _ _ (hs9.al _) ?_).mono ?_
  · exact ShP.made _ _ _ _ _ rfl (by simp)
  rintro e w11 ⟨rfl, hq⟩
  have hA11 := (hA10.al _).bl hq.bl
  have hB11 := (hB10.al _).bl hq.bl
  have B11 := Bl.q (B10.alloc _) hq
  clear hA10 hB10 B10 hq hs9
  go_wp2_with fail
  refine (k8.out _ _ _ _ _ (by decide) (by decide) hA11 hB11).mono ?_
  rintro e w12 ⟨A11, c11, rfl, hs11, hc11, hb⟩
  have hA12 := hA11.bl hb
  have hB12 := hB11.bl hb
  have B12 := Bl.trans B11 hb
  clear hA11 hB11 B11 hb hc11
  go_wp2_with fail
  refine (s4.out _ _ _ _ _ (hs11.al _) ?_).mono ?_
  · exact ShP.made _ _ _ _ _ rfl (by simp)
  rintro e w13 ⟨rfl, hq⟩
  have hA13 := (hA12.al _).bl hq.bl
  have hB13 := (hB12.al _).bl hq.bl
  have B13 := Bl.q (B12.alloc _) hq
  clear hA12 hB12 B12 hq hs11
  go_wp2_with fail
  refine (k9.out _ _ _ (by decide) ?_).mono ?_
  · exact ShP.made _ _ _ _ _ rfl (by simp)
  rintro e w14 ⟨rfl, hb⟩
  have hA14 := (hA13.al _).bl hb
  have hB14 := (hB13.al _).bl hb
  have B14 := Bl.trans (B13.alloc _) hb
  clear hA13 hB13 B13 hb
  go_wp2_with fail
  go_ret
  exact ⟨rfl, B14⟩
end Go.Proofs.Ytdfnmohgkjonfaa.Span
