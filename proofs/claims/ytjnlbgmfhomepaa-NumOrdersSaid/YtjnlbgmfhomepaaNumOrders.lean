/- NumOrders returns true for every three pairs of int16: Cmp orders the fractions that Make returns totally, and agrees with the products. No condition. -/
import Derived.Test.YtjnlbgmfhomepaaRows
import Derived.ProofKit
import Derived.OpenShut
import Derived.ChangeOld
import Derived.Test.YtjnlbgmfhomepaaNumFractions
namespace Go.Proofs.Ytjnlbgmfhomepaa.NumOrders
open Go.ChangeShapes Go.WideShapes Go.ChangeAt Go.RowKit
open Go.Proofs.Ytjnlbgmfhomepaa.Num
set_option linter.unusedVariables false

theorem wf_okI {x : Int} (h : (Lit.int .i64 x).wf = true) : okI x := bounds_i64 h

open Go.Proofs.Ytjnlbgmfhomepaa.NumFractions (mk_valid)

/-- the fraction of two numbers of 16 bits -/
theorem small (a b : Int) (a0 : -32768 ≤ a) (a1 : a ≤ 32767) (b0 : -32768 ≤ b) (b1 : b ≤ 32767) (hb : b ≠ 0) :
    mkE a b = 0 ∧ vd (mkN a b) (mkD a b) = true ∧ -32768 ≤ mkN a b ∧ mkN a b ≤ 32768 ∧ 0 < mkD a b ∧ mkD a b ≤ 32768 := by
  have hg := gcd_pos a b hb
  have h1 := Int.ediv_nonneg (a := (a.natAbs : Int)) (by omega) (Int.le_of_lt hg)
  have h2 := Int.ediv_le_self (a := (a.natAbs : Int)) (Int.gcd a b : Int) (by omega)
  have h3 := Int.ediv_nonneg (a := (b.natAbs : Int)) (by omega) (Int.le_of_lt hg)
  have h4 := Int.ediv_le_self (a := (b.natAbs : Int)) (Int.gcd a b : Int) (by omega)
  have k1 : -32768 ≤ fn a b ∧ fn a b ≤ 32768 := by
    unfold fn sg
    cases df a b
    · show -32768 ≤ (a.natAbs : Int) / (Int.gcd a b : Int) ∧ (a.natAbs : Int) / (Int.gcd a b : Int) ≤ 32768
      omega
    · show -32768 ≤ -((a.natAbs : Int) / (Int.gcd a b : Int)) ∧ -((a.natAbs : Int) / (Int.gcd a b : Int)) ≤ 32768
      omega
  have k2 : fd a b ≤ 32768 := by unfold fd; omega
  have o1 : okI (fn a b) := by unfold okI; omega
  have o2 : okI (fd a b) := by unfold fd okI; omega
  have hv := mk_valid a b hb o1 o2
  obtain ⟨e1, e2, e3⟩ := mk_ok hb o1 o2
  rw [e1, e2, e3]
  exact ⟨rfl, hv, k1.1, k1.2, ((vd_iff _ _).1 hv).1, k2⟩
/-- a valid fraction has one form -/
theorem one_form (a b c d : Int) (h1 : vd a b = true) (h2 : vd c d = true) (h : a * d = c * b) : a = c ∧ b = d := by
  obtain ⟨b0, g1⟩ := (vd_iff a b).1 h1
  obtain ⟨d0, g2⟩ := (vd_iff c d).1 h2
  have e : a.natAbs * d.natAbs = c.natAbs * b.natAbs := by rw [← Int.natAbs_mul, ← Int.natAbs_mul, h]
  have k1 : b.natAbs ∣ d.natAbs := Nat.Coprime.dvd_of_dvd_mul_left (k := b.natAbs) (m := a.natAbs) (show Nat.gcd b.natAbs a.natAbs = 1 by rw [Nat.gcd_comm]; exact g1) (by rw [e]; exact Nat.dvd_mul_left _ _)
  have k2 : d.natAbs ∣ b.natAbs := Nat.Coprime.dvd_of_dvd_mul_left (k := d.natAbs) (m := c.natAbs) (show Nat.gcd d.natAbs c.natAbs = 1 by rw [Nat.gcd_comm]; exact g2) (by rw [← e]; exact Nat.dvd_mul_left _ _)
  have hbd : b = d := by
    have := Nat.dvd_antisymm k1 k2
    omega
  refine ⟨?_, hbd⟩
  rw [hbd] at h
  exact Int.eq_of_mul_eq_mul_right (by omega) h
theorem cs_val (a b c d : Int) (h1 : vd a b = true) (h2 : vd c d = true) : cs a b c d = sn (a * d) (c * b) := by unfold cs; rw [if_pos ⟨h1, h2⟩]
theorem sn_le {x y : Int} : sn x y ≤ 0 ↔ x ≤ y := by
  unfold sn
  by_cases h : x < y
  · rw [if_pos h]; omega
  · by_cases g : y < x
    · rw [if_neg h, if_pos g]; omega
    · rw [if_neg h, if_neg g]; omega
/-- the order is transitive -/
theorem cs_trans (a b c d e f : Int) (h1 : vd a b = true) (h2 : vd c d = true) (h3 : vd e f = true) (g1 : cs a b c d ≤ 0) (g2 : cs c d e f ≤ 0) : cs a b e f ≤ 0 := by
  have b0 := ((vd_iff a b).1 h1).1
  have d0 := ((vd_iff c d).1 h2).1
  have f0 := ((vd_iff e f).1 h3).1
  rw [cs_val _ _ _ _ h1 h2, sn_le] at g1
  rw [cs_val _ _ _ _ h2 h3, sn_le] at g2
  rw [cs_val _ _ _ _ h1 h3, sn_le]
  have k1 : a * d * f ≤ c * b * f := Int.mul_le_mul_of_nonneg_right g1 (by omega)
  have k2 : c * f * b ≤ e * d * b := Int.mul_le_mul_of_nonneg_right g2 (by omega)
  rw [Int.mul_right_comm a d f, Int.mul_right_comm c b f] at k1
  rw [Int.mul_right_comm e d b] at k2
  exact Int.le_of_mul_le_mul_right (Int.le_trans k1 k2) d0
theorem prod_small (N D : Int) (h1 : -32768 ≤ N) (h2 : N ≤ 32768) (h3 : 0 < D) (h4 : D ≤ 32768) : -1073741824 ≤ N * D ∧ N * D ≤ 1073741824 := by
  have a1 : 0 ≤ (32768 - N) * D := Int.mul_nonneg (by omega) (by omega)
  have a2 : 0 ≤ (32768 + N) * D := Int.mul_nonneg (by omega) (by omega)
  rw [Int.sub_mul] at a1
  rw [Int.add_mul] at a2
  omega

theorem undrew {W w1 : World} {n : Nat} (h : Bl (W.drewN n) w1) : Bl W w1 := ⟨h.os, h.tape, h.output, h.size, h.block⟩
/-- a block of two values -/
def Pr (w : World) (k : Nat) (x y : Value) : Prop := k < w.heap.size ∧ w.cell? ⟨k, 0, none⟩ = some x ∧ w.cell? ⟨k, 1, none⟩ = some y
theorem Pr.bl {w w1 : World} {k : Nat} {x y : Value} (h : Pr w k x y) (hb : Bl w w1) : Pr w1 k x y := by
  obtain ⟨h0, h1, h2⟩ := h
  exact ⟨Nat.lt_of_lt_of_le h0 hb.size, (Below.cell hb (p := ⟨k, 0, none⟩) h0).trans h1, (Below.cell hb (p := ⟨k, 1, none⟩) h0).trans h2⟩
theorem pr_new (w : World) (x y : Value) (t : TypeId) : Pr (w.alloc (.cells #[x, y] t)) w.heap.size x y := by
  refine ⟨by simp, ?_, ?_⟩ <;> simp
theorem Pr.alloc {w : World} {k : Nat} {x y : Value} (h : Pr w k x y) (o : Obj) : Pr (w.alloc o) k x y := h.bl (Bl.alloc (Bl.refl _) o)

set_option maxRecDepth 100000 in
set_option maxHeartbeats 4000000 in
theorem walk (a0 a1 b0 b1 c0 c1 : Int) (ha0 : -32768 ≤ a0 ∧ a0 ≤ 32767) (ha1 : -32768 ≤ a1 ∧ a1 ≤ 32767) (hb0 : -32768 ≤ b0 ∧ b0 ≤ 32767) (hb1 : -32768 ≤ b1 ∧ b1 ≤ 32767) (hc0 : -32768 ≤ c0 ∧ c0 ≤ 32767) (hc1 : -32768 ≤ c1 ∧ c1 ≤ 32767) (w : World) :
    Calls Try.prog 10 #[.agg #[.int .i16 a0, .int .i16 a1], .agg #[.int .i16 b0, .int .i16 b1], .agg #[.int .i16 c0, .int .i16 c1]] w fun e w' => e = .returned (.bool true) ∧ Bl w w' := by
  have m1 := hid (fun w => make_any a0 a1 w (by unfold okI; omega) (by unfold okI; omega))
  have m2 := hid (fun w => make_any b0 b1 w (by unfold okI; omega) (by unfold okI; omega))
  have m3 := hid (fun w => make_any c0 c1 w (by unfold okI; omega) (by unfold okI; omega))
  have q1 := small a0 a1 ha0.1 ha0.2 ha1.1 ha1.2
  have q2 := small b0 b1 hb0.1 hb0.2 hb1.1 hb1.2
  have q3 := small c0 c1 hc0.1 hc0.2 hc1.1 hc1.2
  generalize mkN a0 a1 = N1 at *
  generalize mkD a0 a1 = D1 at *
  generalize mkE a0 a1 = E1 at *
  generalize mkN b0 b1 = N2 at *
  generalize mkD b0 b1 = D2 at *
  generalize mkE b0 b1 = E2 at *
  generalize mkN c0 c1 = N3 at *
  generalize mkD c0 c1 = D3 at *
  generalize mkE c0 c1 = E3 at *
  by_cases z1 : a1 = 0
  · have e1 : (a1 == 0) = true := by rw [beq_iff_eq]; exact z1
    clear q1 q2 q3 z1
    go_enter Try.func10, Try.ntmps10
    go_wp2_with fail
    refine (m1.out _).mono ?_
    rintro e w1 ⟨rfl, h1⟩
    have A1 := hid ((((pr_new w (.int .i16 a0) (.int .i16 a1) 42).alloc (.cells #[.int .i16 b0, .int .i16 b1] 42)).alloc (.cells #[.int .i16 c0, .int .i16 c1] 42)).bl h1)
    have B1 := hid (((pr_new (w.alloc (.cells #[.int .i16 a0, .int .i16 a1] 42)) (.int .i16 b0) (.int .i16 b1) 42).alloc (.cells #[.int .i16 c0, .int .i16 c1] 42)).bl h1)
    have C1 := hid ((pr_new ((w.alloc (.cells #[.int .i16 a0, .int .i16 a1] 42)).alloc (.cells #[.int .i16 b0, .int .i16 b1] 42)) (.int .i16 c0) (.int .i16 c1) 42).bl h1)
    have L1 := hid (Bl.trans (Bl.alloc (Bl.alloc (Bl.alloc (Bl.refl w) (.cells #[.int .i16 a0, .int .i16 a1] 42)) (.cells #[.int .i16 b0, .int .i16 b1] 42)) (.cells #[.int .i16 c0, .int .i16 c1] 42)) h1)
    simp only [World.size_alloc] at B1 C1
    clear h1
    generalize w.heap.size = k at *
    obtain ⟨_, pa0, pa1⟩ := A1.out
    obtain ⟨_, pb0, pb1⟩ := B1.out
    obtain ⟨_, pc0, pc1⟩ := C1.out
    go_wp2_with fail
    refine (m2.out _).mono ?_
    rintro e w2 ⟨rfl, h2⟩
    have A2 := hid ((A1.out.alloc (.cells #[.int .i64 N1, .int .i64 D1] 34)).bl h2)
    have B2 := hid ((B1.out.alloc (.cells #[.int .i64 N1, .int .i64 D1] 34)).bl h2)
    have C2 := hid ((C1.out.alloc (.cells #[.int .i64 N1, .int .i64 D1] 34)).bl h2)
    have X2 := hid ((pr_new w1 (.int .i64 N1) (.int .i64 D1) 34).bl h2)
    have L2 := hid (Bl.trans (Bl.alloc L1.out (.cells #[.int .i64 N1, .int .i64 D1] 34)) h2)
    clear h2 A1 B1 C1 L1 pa0 pa1 pb0 pb1 pc0 pc1
    generalize w1.heap.size = kx at *
    obtain ⟨_, pa0, pa1⟩ := A2.out
    obtain ⟨_, pb0, pb1⟩ := B2.out
    obtain ⟨_, pc0, pc1⟩ := C2.out
    obtain ⟨_, px0, px1⟩ := X2.out
    go_wp2_with fail
    refine (m3.out _).mono ?_
    rintro e w3 ⟨rfl, h3⟩
    have A3 := hid ((A2.out.alloc (.cells #[.int .i64 N2, .int .i64 D2] 34)).bl h3)
    have B3 := hid ((B2.out.alloc (.cells #[.int .i64 N2, .int .i64 D2] 34)).bl h3)
    have C3 := hid ((C2.out.alloc (.cells #[.int .i64 N2, .int .i64 D2] 34)).bl h3)
    have X3 := hid ((X2.out.alloc (.cells #[.int .i64 N2, .int .i64 D2] 34)).bl h3)
    have Y3 := hid ((pr_new w2 (.int .i64 N2) (.int .i64 D2) 34).bl h3)
    have L3 := hid (Bl.trans (Bl.alloc L2.out (.cells #[.int .i64 N2, .int .i64 D2] 34)) h3)
    clear h3 A2 B2 C2 X2 L2 pa0 pa1 pb0 pb1 pc0 pc1 px0 px1
    generalize w2.heap.size = ky at *
    obtain ⟨_, pa0, pa1⟩ := A3.out
    obtain ⟨_, pb0, pb1⟩ := B3.out
    obtain ⟨_, pc0, pc1⟩ := C3.out
    obtain ⟨_, px0, px1⟩ := X3.out
    obtain ⟨_, py0, py1⟩ := Y3.out
    go_wp2_with fail
    refine (awake_any _).mono ?_
    rintro e w4 ⟨rfl, h4⟩
    have L4 := hid (Bl.trans (Bl.alloc L3.out (.cells #[.int .i64 N3, .int .i64 D3] 34)) h4)
    clear h4 pa0 pa1 pb0 pb1 pc0 pc1 px0 px1 py0 py1
    go_wp2_with fail
    go_ret
    exact ⟨rfl, L4.out⟩
  have e1 : (a1 == 0) = false := by rw [beq_eq_false_iff_ne]; exact z1
  by_cases z2 : b1 = 0
  · have e2 : (b1 == 0) = true := by rw [beq_iff_eq]; exact z2
    clear q1 q2 q3 z1 z2
    go_enter Try.func10, Try.ntmps10
    go_wp2_with fail
    refine (m1.out _).mono ?_
    rintro e w1 ⟨rfl, h1⟩
    have A1 := hid ((((pr_new w (.int .i16 a0) (.int .i16 a1) 42).alloc (.cells #[.int .i16 b0, .int .i16 b1] 42)).alloc (.cells #[.int .i16 c0, .int .i16 c1] 42)).bl h1)
    have B1 := hid (((pr_new (w.alloc (.cells #[.int .i16 a0, .int .i16 a1] 42)) (.int .i16 b0) (.int .i16 b1) 42).alloc (.cells #[.int .i16 c0, .int .i16 c1] 42)).bl h1)
    have C1 := hid ((pr_new ((w.alloc (.cells #[.int .i16 a0, .int .i16 a1] 42)).alloc (.cells #[.int .i16 b0, .int .i16 b1] 42)) (.int .i16 c0) (.int .i16 c1) 42).bl h1)
    have L1 := hid (Bl.trans (Bl.alloc (Bl.alloc (Bl.alloc (Bl.refl w) (.cells #[.int .i16 a0, .int .i16 a1] 42)) (.cells #[.int .i16 b0, .int .i16 b1] 42)) (.cells #[.int .i16 c0, .int .i16 c1] 42)) h1)
    simp only [World.size_alloc] at B1 C1
    clear h1
    generalize w.heap.size = k at *
    obtain ⟨_, pa0, pa1⟩ := A1.out
    obtain ⟨_, pb0, pb1⟩ := B1.out
    obtain ⟨_, pc0, pc1⟩ := C1.out
    go_wp2_with fail
    refine (m2.out _).mono ?_
    rintro e w2 ⟨rfl, h2⟩
    have A2 := hid ((A1.out.alloc (.cells #[.int .i64 N1, .int .i64 D1] 34)).bl h2)
    have B2 := hid ((B1.out.alloc (.cells #[.int .i64 N1, .int .i64 D1] 34)).bl h2)
    have C2 := hid ((C1.out.alloc (.cells #[.int .i64 N1, .int .i64 D1] 34)).bl h2)
    have X2 := hid ((pr_new w1 (.int .i64 N1) (.int .i64 D1) 34).bl h2)
    have L2 := hid (Bl.trans (Bl.alloc L1.out (.cells #[.int .i64 N1, .int .i64 D1] 34)) h2)
    clear h2 A1 B1 C1 L1 pa0 pa1 pb0 pb1 pc0 pc1
    generalize w1.heap.size = kx at *
    obtain ⟨_, pa0, pa1⟩ := A2.out
    obtain ⟨_, pb0, pb1⟩ := B2.out
    obtain ⟨_, pc0, pc1⟩ := C2.out
    obtain ⟨_, px0, px1⟩ := X2.out
    go_wp2_with fail
    refine (m3.out _).mono ?_
    rintro e w3 ⟨rfl, h3⟩
    have A3 := hid ((A2.out.alloc (.cells #[.int .i64 N2, .int .i64 D2] 34)).bl h3)
    have B3 := hid ((B2.out.alloc (.cells #[.int .i64 N2, .int .i64 D2] 34)).bl h3)
    have C3 := hid ((C2.out.alloc (.cells #[.int .i64 N2, .int .i64 D2] 34)).bl h3)
    have X3 := hid ((X2.out.alloc (.cells #[.int .i64 N2, .int .i64 D2] 34)).bl h3)
    have Y3 := hid ((pr_new w2 (.int .i64 N2) (.int .i64 D2) 34).bl h3)
    have L3 := hid (Bl.trans (Bl.alloc L2.out (.cells #[.int .i64 N2, .int .i64 D2] 34)) h3)
    clear h3 A2 B2 C2 X2 L2 pa0 pa1 pb0 pb1 pc0 pc1 px0 px1
    generalize w2.heap.size = ky at *
    obtain ⟨_, pa0, pa1⟩ := A3.out
    obtain ⟨_, pb0, pb1⟩ := B3.out
    obtain ⟨_, pc0, pc1⟩ := C3.out
    obtain ⟨_, px0, px1⟩ := X3.out
    obtain ⟨_, py0, py1⟩ := Y3.out
    go_wp2_with fail
    refine (awake_any _).mono ?_
    rintro e w4 ⟨rfl, h4⟩
    have L4 := hid (Bl.trans (Bl.alloc L3.out (.cells #[.int .i64 N3, .int .i64 D3] 34)) h4)
    clear h4 pa0 pa1 pb0 pb1 pc0 pc1 px0 px1 py0 py1
    go_wp2_with fail
    go_ret
    exact ⟨rfl, L4.out⟩
  have e2 : (b1 == 0) = false := by rw [beq_eq_false_iff_ne]; exact z2
  by_cases z3 : c1 = 0
  · have e3 : (c1 == 0) = true := by rw [beq_iff_eq]; exact z3
    clear q1 q2 q3 z1 z2 z3
    go_enter Try.func10, Try.ntmps10
    go_wp2_with fail
    refine (m1.out _).mono ?_
    rintro e w1 ⟨rfl, h1⟩
    have A1 := hid ((((pr_new w (.int .i16 a0) (.int .i16 a1) 42).alloc (.cells #[.int .i16 b0, .int .i16 b1] 42)).alloc (.cells #[.int .i16 c0, .int .i16 c1] 42)).bl h1)
    have B1 := hid (((pr_new (w.alloc (.cells #[.int .i16 a0, .int .i16 a1] 42)) (.int .i16 b0) (.int .i16 b1) 42).alloc (.cells #[.int .i16 c0, .int .i16 c1] 42)).bl h1)
    have C1 := hid ((pr_new ((w.alloc (.cells #[.int .i16 a0, .int .i16 a1] 42)).alloc (.cells #[.int .i16 b0, .int .i16 b1] 42)) (.int .i16 c0) (.int .i16 c1) 42).bl h1)
    have L1 := hid (Bl.trans (Bl.alloc (Bl.alloc (Bl.alloc (Bl.refl w) (.cells #[.int .i16 a0, .int .i16 a1] 42)) (.cells #[.int .i16 b0, .int .i16 b1] 42)) (.cells #[.int .i16 c0, .int .i16 c1] 42)) h1)
    simp only [World.size_alloc] at B1 C1
    clear h1
    generalize w.heap.size = k at *
    obtain ⟨_, pa0, pa1⟩ := A1.out
    obtain ⟨_, pb0, pb1⟩ := B1.out
    obtain ⟨_, pc0, pc1⟩ := C1.out
    go_wp2_with fail
    refine (m2.out _).mono ?_
    rintro e w2 ⟨rfl, h2⟩
    have A2 := hid ((A1.out.alloc (.cells #[.int .i64 N1, .int .i64 D1] 34)).bl h2)
    have B2 := hid ((B1.out.alloc (.cells #[.int .i64 N1, .int .i64 D1] 34)).bl h2)
    have C2 := hid ((C1.out.alloc (.cells #[.int .i64 N1, .int .i64 D1] 34)).bl h2)
    have X2 := hid ((pr_new w1 (.int .i64 N1) (.int .i64 D1) 34).bl h2)
    have L2 := hid (Bl.trans (Bl.alloc L1.out (.cells #[.int .i64 N1, .int .i64 D1] 34)) h2)
    clear h2 A1 B1 C1 L1 pa0 pa1 pb0 pb1 pc0 pc1
    generalize w1.heap.size = kx at *
    obtain ⟨_, pa0, pa1⟩ := A2.out
    obtain ⟨_, pb0, pb1⟩ := B2.out
    obtain ⟨_, pc0, pc1⟩ := C2.out
    obtain ⟨_, px0, px1⟩ := X2.out
    go_wp2_with fail
    refine (m3.out _).mono ?_
    rintro e w3 ⟨rfl, h3⟩
    have A3 := hid ((A2.out.alloc (.cells #[.int .i64 N2, .int .i64 D2] 34)).bl h3)
    have B3 := hid ((B2.out.alloc (.cells #[.int .i64 N2, .int .i64 D2] 34)).bl h3)
    have C3 := hid ((C2.out.alloc (.cells #[.int .i64 N2, .int .i64 D2] 34)).bl h3)
    have X3 := hid ((X2.out.alloc (.cells #[.int .i64 N2, .int .i64 D2] 34)).bl h3)
    have Y3 := hid ((pr_new w2 (.int .i64 N2) (.int .i64 D2) 34).bl h3)
    have L3 := hid (Bl.trans (Bl.alloc L2.out (.cells #[.int .i64 N2, .int .i64 D2] 34)) h3)
    clear h3 A2 B2 C2 X2 L2 pa0 pa1 pb0 pb1 pc0 pc1 px0 px1
    generalize w2.heap.size = ky at *
    obtain ⟨_, pa0, pa1⟩ := A3.out
    obtain ⟨_, pb0, pb1⟩ := B3.out
    obtain ⟨_, pc0, pc1⟩ := C3.out
    obtain ⟨_, px0, px1⟩ := X3.out
    obtain ⟨_, py0, py1⟩ := Y3.out
    go_wp2_with fail
    refine (awake_any _).mono ?_
    rintro e w4 ⟨rfl, h4⟩
    have L4 := hid (Bl.trans (Bl.alloc L3.out (.cells #[.int .i64 N3, .int .i64 D3] 34)) h4)
    clear h4 pa0 pa1 pb0 pb1 pc0 pc1 px0 px1 py0 py1
    go_wp2_with fail
    go_ret
    exact ⟨rfl, L4.out⟩
  have e3 : (c1 == 0) = false := by rw [beq_eq_false_iff_ne]; exact z3
  obtain ⟨rfl, v1, n1, n1', d1, d1'⟩ := q1 z1
  obtain ⟨rfl, v2, n2, n2', d2, d2'⟩ := q2 z2
  obtain ⟨rfl, v3, n3, n3', d3, d3'⟩ := q3 z3
  have p1 := prod_small N1 D2 n1 n1' d2 d2'
  have p2 := prod_small N2 D1 n2 n2' d1 d1'
  have k12 := hid (fun w => cmp_any N1 D1 N2 D2 w (by unfold okI; omega) (by unfold okI; omega) (by unfold okI; omega) (by unfold okI; omega))
  have k23 := hid (fun w => cmp_any N2 D2 N3 D3 w (by unfold okI; omega) (by unfold okI; omega) (by unfold okI; omega) (by unfold okI; omega))
  have k13 := hid (fun w => cmp_any N1 D1 N3 D3 w (by unfold okI; omega) (by unfold okI; omega) (by unfold okI; omega) (by unfold okI; omega))
  have htr := hid (cs_trans N1 D1 N2 D2 N3 D3 v1 v2 v3)
  have hone := hid (one_form N1 D1 N2 D2 v1 v2)
  have hval := hid (cs_val N1 D1 N2 D2 v1 v2)
  have hself := hid (cs_val N1 D1 N1 D1 v1 v1)
  clear v1 v2 v3 n1 n1' n2 n2' n3 n3' d1 d1' d2 d2' d3 d3' q1 q2 q3 z1 z2 z3
  generalize hm : cs N2 D2 N3 D3 = m at *
  generalize hl : cs N1 D1 N3 D3 = l at *
  clear hm hl
  rcases Int.lt_trichotomy (N1 * D2) (N2 * D1) with hlt | heq | hgt
  · have hn := hval.out
    rw [sn_lt hlt] at hn
    rw [hn] at k12 htr
    have hne : (N1 * D2 == N2 * D1) = false := by rw [beq_eq_false_iff_ne]; omega
    clear hn hself hone hval
    by_cases hNN : N1 = N2
    · have hDD : ¬ D1 = D2 := fun h => by subst hNN h; omega
      subst hNN
      by_cases hm : 0 < m
      · have gm : decide (0 < m) = true := decide_eq_true hm
        clear htr
        go_enter Try.func10, Try.ntmps10
        go_wp2_with fail
        refine (m1.out _).mono ?_
        rintro e w1 ⟨rfl, h1⟩
        have A1 := hid ((((pr_new w (.int .i16 a0) (.int .i16 a1) 42).alloc (.cells #[.int .i16 b0, .int .i16 b1] 42)).alloc (.cells #[.int .i16 c0, .int .i16 c1] 42)).bl h1)
        have B1 := hid (((pr_new (w.alloc (.cells #[.int .i16 a0, .int .i16 a1] 42)) (.int .i16 b0) (.int .i16 b1) 42).alloc (.cells #[.int .i16 c0, .int .i16 c1] 42)).bl h1)
        have C1 := hid ((pr_new ((w.alloc (.cells #[.int .i16 a0, .int .i16 a1] 42)).alloc (.cells #[.int .i16 b0, .int .i16 b1] 42)) (.int .i16 c0) (.int .i16 c1) 42).bl h1)
        have L1 := hid (Bl.trans (Bl.alloc (Bl.alloc (Bl.alloc (Bl.refl w) (.cells #[.int .i16 a0, .int .i16 a1] 42)) (.cells #[.int .i16 b0, .int .i16 b1] 42)) (.cells #[.int .i16 c0, .int .i16 c1] 42)) h1)
        simp only [World.size_alloc] at B1 C1
        clear h1
        generalize w.heap.size = k at *
        obtain ⟨_, pa0, pa1⟩ := A1.out
        obtain ⟨_, pb0, pb1⟩ := B1.out
        obtain ⟨_, pc0, pc1⟩ := C1.out
        go_wp2_with fail
        refine (m2.out _).mono ?_
        rintro e w2 ⟨rfl, h2⟩
        have A2 := hid ((A1.out.alloc (.cells #[.int .i64 N1, .int .i64 D1] 34)).bl h2)
        have B2 := hid ((B1.out.alloc (.cells #[.int .i64 N1, .int .i64 D1] 34)).bl h2)
        have C2 := hid ((C1.out.alloc (.cells #[.int .i64 N1, .int .i64 D1] 34)).bl h2)
        have X2 := hid ((pr_new w1 (.int .i64 N1) (.int .i64 D1) 34).bl h2)
        have L2 := hid (Bl.trans (Bl.alloc L1.out (.cells #[.int .i64 N1, .int .i64 D1] 34)) h2)
        clear h2 A1 B1 C1 L1 pa0 pa1 pb0 pb1 pc0 pc1
        generalize w1.heap.size = kx at *
        obtain ⟨_, pa0, pa1⟩ := A2.out
        obtain ⟨_, pb0, pb1⟩ := B2.out
        obtain ⟨_, pc0, pc1⟩ := C2.out
        obtain ⟨_, px0, px1⟩ := X2.out
        go_wp2_with fail
        refine (m3.out _).mono ?_
        rintro e w3 ⟨rfl, h3⟩
        have A3 := hid ((A2.out.alloc (.cells #[.int .i64 N1, .int .i64 D2] 34)).bl h3)
        have B3 := hid ((B2.out.alloc (.cells #[.int .i64 N1, .int .i64 D2] 34)).bl h3)
        have C3 := hid ((C2.out.alloc (.cells #[.int .i64 N1, .int .i64 D2] 34)).bl h3)
        have X3 := hid ((X2.out.alloc (.cells #[.int .i64 N1, .int .i64 D2] 34)).bl h3)
        have Y3 := hid ((pr_new w2 (.int .i64 N1) (.int .i64 D2) 34).bl h3)
        have L3 := hid (Bl.trans (Bl.alloc L2.out (.cells #[.int .i64 N1, .int .i64 D2] 34)) h3)
        clear h3 A2 B2 C2 X2 L2 pa0 pa1 pb0 pb1 pc0 pc1 px0 px1
        generalize w2.heap.size = ky at *
        obtain ⟨_, pa0, pa1⟩ := A3.out
        obtain ⟨_, pb0, pb1⟩ := B3.out
        obtain ⟨_, pc0, pc1⟩ := C3.out
        obtain ⟨_, px0, px1⟩ := X3.out
        obtain ⟨_, py0, py1⟩ := Y3.out
        go_wp2_with fail
        go_quiet (fail)
        go_wp2_with fail
        refine (k12.out _).mono ?_
        rintro e w4 ⟨rfl, h4'⟩
        have h4 := undrew h4'
        clear h4'
        have X4 := hid ((X3.out.alloc (.cells #[.int .i64 N3, .int .i64 D3] 34)).bl h4)
        have Y4 := hid ((Y3.out.alloc (.cells #[.int .i64 N3, .int .i64 D3] 34)).bl h4)
        have Z4 := hid ((pr_new w3 (.int .i64 N3) (.int .i64 D3) 34).bl h4)
        have L4 := hid (Bl.trans (Bl.alloc L3.out (.cells #[.int .i64 N3, .int .i64 D3] 34)) h4)
        clear h4 A3 B3 C3 X3 Y3 L3 pa0 pa1 pb0 pb1 pc0 pc1 px0 px1 py0 py1
        generalize w3.heap.size = kz at *
        obtain ⟨_, px0, px1⟩ := X4.out
        obtain ⟨_, py0, py1⟩ := Y4.out
        obtain ⟨_, pz0, pz1⟩ := Z4.out
        go_wp2_with fail
        refine (awake_any _).mono ?_
        rintro e w5 ⟨rfl, h5⟩
        have X5 := hid (X4.out.bl h5)
        have Y5 := hid (Y4.out.bl h5)
        have Z5 := hid (Z4.out.bl h5)
        have L5 := hid (Bl.trans L4.out h5)
        clear h5 X4 Y4 Z4 L4 px0 px1 py0 py1 pz0 pz1
        obtain ⟨_, px0, px1⟩ := X5.out
        obtain ⟨_, py0, py1⟩ := Y5.out
        obtain ⟨_, pz0, pz1⟩ := Z5.out
        go_wp2_with fail
        refine (k23.out _).mono ?_
        rintro e w6 ⟨rfl, h6⟩
        have X6 := hid (X5.out.bl h6)
        have Y6 := hid (Y5.out.bl h6)
        have Z6 := hid (Z5.out.bl h6)
        have L6 := hid (Bl.trans L5.out h6)
        clear h6 X5 Y5 Z5 L5 px0 px1 py0 py1 pz0 pz1
        obtain ⟨_, px0, px1⟩ := X6.out
        obtain ⟨_, py0, py1⟩ := Y6.out
        obtain ⟨_, pz0, pz1⟩ := Z6.out
        go_wp2_with fail
        go_ret
        exact ⟨rfl, L6.out⟩
      · have gm : decide (0 < m) = false := decide_eq_false hm
        have hl : l ≤ 0 := htr.out (by decide) (by omega)
        clear htr
        go_enter Try.func10, Try.ntmps10
        go_wp2_with fail
        refine (m1.out _).mono ?_
        rintro e w1 ⟨rfl, h1⟩
        have A1 := hid ((((pr_new w (.int .i16 a0) (.int .i16 a1) 42).alloc (.cells #[.int .i16 b0, .int .i16 b1] 42)).alloc (.cells #[.int .i16 c0, .int .i16 c1] 42)).bl h1)
        have B1 := hid (((pr_new (w.alloc (.cells #[.int .i16 a0, .int .i16 a1] 42)) (.int .i16 b0) (.int .i16 b1) 42).alloc (.cells #[.int .i16 c0, .int .i16 c1] 42)).bl h1)
        have C1 := hid ((pr_new ((w.alloc (.cells #[.int .i16 a0, .int .i16 a1] 42)).alloc (.cells #[.int .i16 b0, .int .i16 b1] 42)) (.int .i16 c0) (.int .i16 c1) 42).bl h1)
        have L1 := hid (Bl.trans (Bl.alloc (Bl.alloc (Bl.alloc (Bl.refl w) (.cells #[.int .i16 a0, .int .i16 a1] 42)) (.cells #[.int .i16 b0, .int .i16 b1] 42)) (.cells #[.int .i16 c0, .int .i16 c1] 42)) h1)
        simp only [World.size_alloc] at B1 C1
        clear h1
        generalize w.heap.size = k at *
        obtain ⟨_, pa0, pa1⟩ := A1.out
        obtain ⟨_, pb0, pb1⟩ := B1.out
        obtain ⟨_, pc0, pc1⟩ := C1.out
        go_wp2_with fail
        refine (m2.out _).mono ?_
        rintro e w2 ⟨rfl, h2⟩
        have A2 := hid ((A1.out.alloc (.cells #[.int .i64 N1, .int .i64 D1] 34)).bl h2)
        have B2 := hid ((B1.out.alloc (.cells #[.int .i64 N1, .int .i64 D1] 34)).bl h2)
        have C2 := hid ((C1.out.alloc (.cells #[.int .i64 N1, .int .i64 D1] 34)).bl h2)
        have X2 := hid ((pr_new w1 (.int .i64 N1) (.int .i64 D1) 34).bl h2)
        have L2 := hid (Bl.trans (Bl.alloc L1.out (.cells #[.int .i64 N1, .int .i64 D1] 34)) h2)
        clear h2 A1 B1 C1 L1 pa0 pa1 pb0 pb1 pc0 pc1
        generalize w1.heap.size = kx at *
        obtain ⟨_, pa0, pa1⟩ := A2.out
        obtain ⟨_, pb0, pb1⟩ := B2.out
        obtain ⟨_, pc0, pc1⟩ := C2.out
        obtain ⟨_, px0, px1⟩ := X2.out
        go_wp2_with fail
        refine (m3.out _).mono ?_
        rintro e w3 ⟨rfl, h3⟩
        have A3 := hid ((A2.out.alloc (.cells #[.int .i64 N1, .int .i64 D2] 34)).bl h3)
        have B3 := hid ((B2.out.alloc (.cells #[.int .i64 N1, .int .i64 D2] 34)).bl h3)
        have C3 := hid ((C2.out.alloc (.cells #[.int .i64 N1, .int .i64 D2] 34)).bl h3)
        have X3 := hid ((X2.out.alloc (.cells #[.int .i64 N1, .int .i64 D2] 34)).bl h3)
        have Y3 := hid ((pr_new w2 (.int .i64 N1) (.int .i64 D2) 34).bl h3)
        have L3 := hid (Bl.trans (Bl.alloc L2.out (.cells #[.int .i64 N1, .int .i64 D2] 34)) h3)
        clear h3 A2 B2 C2 X2 L2 pa0 pa1 pb0 pb1 pc0 pc1 px0 px1
        generalize w2.heap.size = ky at *
        obtain ⟨_, pa0, pa1⟩ := A3.out
        obtain ⟨_, pb0, pb1⟩ := B3.out
        obtain ⟨_, pc0, pc1⟩ := C3.out
        obtain ⟨_, px0, px1⟩ := X3.out
        obtain ⟨_, py0, py1⟩ := Y3.out
        go_wp2_with fail
        go_quiet (fail)
        go_wp2_with fail
        refine (k12.out _).mono ?_
        rintro e w4 ⟨rfl, h4'⟩
        have h4 := undrew h4'
        clear h4'
        have X4 := hid ((X3.out.alloc (.cells #[.int .i64 N3, .int .i64 D3] 34)).bl h4)
        have Y4 := hid ((Y3.out.alloc (.cells #[.int .i64 N3, .int .i64 D3] 34)).bl h4)
        have Z4 := hid ((pr_new w3 (.int .i64 N3) (.int .i64 D3) 34).bl h4)
        have L4 := hid (Bl.trans (Bl.alloc L3.out (.cells #[.int .i64 N3, .int .i64 D3] 34)) h4)
        clear h4 A3 B3 C3 X3 Y3 L3 pa0 pa1 pb0 pb1 pc0 pc1 px0 px1 py0 py1
        generalize w3.heap.size = kz at *
        obtain ⟨_, px0, px1⟩ := X4.out
        obtain ⟨_, py0, py1⟩ := Y4.out
        obtain ⟨_, pz0, pz1⟩ := Z4.out
        go_wp2_with fail
        refine (awake_any _).mono ?_
        rintro e w5 ⟨rfl, h5⟩
        have X5 := hid (X4.out.bl h5)
        have Y5 := hid (Y4.out.bl h5)
        have Z5 := hid (Z4.out.bl h5)
        have L5 := hid (Bl.trans L4.out h5)
        clear h5 X4 Y4 Z4 L4 px0 px1 py0 py1 pz0 pz1
        obtain ⟨_, px0, px1⟩ := X5.out
        obtain ⟨_, py0, py1⟩ := Y5.out
        obtain ⟨_, pz0, pz1⟩ := Z5.out
        go_wp2_with fail
        refine (k23.out _).mono ?_
        rintro e w6 ⟨rfl, h6⟩
        have X6 := hid (X5.out.bl h6)
        have Y6 := hid (Y5.out.bl h6)
        have Z6 := hid (Z5.out.bl h6)
        have L6 := hid (Bl.trans L5.out h6)
        clear h6 X5 Y5 Z5 L5 px0 px1 py0 py1 pz0 pz1
        obtain ⟨_, px0, px1⟩ := X6.out
        obtain ⟨_, py0, py1⟩ := Y6.out
        obtain ⟨_, pz0, pz1⟩ := Z6.out
        go_wp2_with fail
        refine (k13.out _).mono ?_
        rintro e w7 ⟨rfl, h7⟩
        have X7 := hid (X6.out.bl h7)
        have Y7 := hid (Y6.out.bl h7)
        have Z7 := hid (Z6.out.bl h7)
        have L7 := hid (Bl.trans L6.out h7)
        clear h7 X6 Y6 Z6 L6 px0 px1 py0 py1 pz0 pz1
        obtain ⟨_, px0, px1⟩ := X7.out
        obtain ⟨_, py0, py1⟩ := Y7.out
        obtain ⟨_, pz0, pz1⟩ := Z7.out
        go_wp2_with fail
        go_ret
        exact ⟨rfl, L7.out⟩
    · by_cases hm : 0 < m
      · have gm : decide (0 < m) = true := decide_eq_true hm
        clear htr
        go_enter Try.func10, Try.ntmps10
        go_wp2_with fail
        refine (m1.out _).mono ?_
        rintro e w1 ⟨rfl, h1⟩
        have A1 := hid ((((pr_new w (.int .i16 a0) (.int .i16 a1) 42).alloc (.cells #[.int .i16 b0, .int .i16 b1] 42)).alloc (.cells #[.int .i16 c0, .int .i16 c1] 42)).bl h1)
        have B1 := hid (((pr_new (w.alloc (.cells #[.int .i16 a0, .int .i16 a1] 42)) (.int .i16 b0) (.int .i16 b1) 42).alloc (.cells #[.int .i16 c0, .int .i16 c1] 42)).bl h1)
        have C1 := hid ((pr_new ((w.alloc (.cells #[.int .i16 a0, .int .i16 a1] 42)).alloc (.cells #[.int .i16 b0, .int .i16 b1] 42)) (.int .i16 c0) (.int .i16 c1) 42).bl h1)
        have L1 := hid (Bl.trans (Bl.alloc (Bl.alloc (Bl.alloc (Bl.refl w) (.cells #[.int .i16 a0, .int .i16 a1] 42)) (.cells #[.int .i16 b0, .int .i16 b1] 42)) (.cells #[.int .i16 c0, .int .i16 c1] 42)) h1)
        simp only [World.size_alloc] at B1 C1
        clear h1
        generalize w.heap.size = k at *
        obtain ⟨_, pa0, pa1⟩ := A1.out
        obtain ⟨_, pb0, pb1⟩ := B1.out
        obtain ⟨_, pc0, pc1⟩ := C1.out
        go_wp2_with fail
        refine (m2.out _).mono ?_
        rintro e w2 ⟨rfl, h2⟩
        have A2 := hid ((A1.out.alloc (.cells #[.int .i64 N1, .int .i64 D1] 34)).bl h2)
        have B2 := hid ((B1.out.alloc (.cells #[.int .i64 N1, .int .i64 D1] 34)).bl h2)
        have C2 := hid ((C1.out.alloc (.cells #[.int .i64 N1, .int .i64 D1] 34)).bl h2)
        have X2 := hid ((pr_new w1 (.int .i64 N1) (.int .i64 D1) 34).bl h2)
        have L2 := hid (Bl.trans (Bl.alloc L1.out (.cells #[.int .i64 N1, .int .i64 D1] 34)) h2)
        clear h2 A1 B1 C1 L1 pa0 pa1 pb0 pb1 pc0 pc1
        generalize w1.heap.size = kx at *
        obtain ⟨_, pa0, pa1⟩ := A2.out
        obtain ⟨_, pb0, pb1⟩ := B2.out
        obtain ⟨_, pc0, pc1⟩ := C2.out
        obtain ⟨_, px0, px1⟩ := X2.out
        go_wp2_with fail
        refine (m3.out _).mono ?_
        rintro e w3 ⟨rfl, h3⟩
        have A3 := hid ((A2.out.alloc (.cells #[.int .i64 N2, .int .i64 D2] 34)).bl h3)
        have B3 := hid ((B2.out.alloc (.cells #[.int .i64 N2, .int .i64 D2] 34)).bl h3)
        have C3 := hid ((C2.out.alloc (.cells #[.int .i64 N2, .int .i64 D2] 34)).bl h3)
        have X3 := hid ((X2.out.alloc (.cells #[.int .i64 N2, .int .i64 D2] 34)).bl h3)
        have Y3 := hid ((pr_new w2 (.int .i64 N2) (.int .i64 D2) 34).bl h3)
        have L3 := hid (Bl.trans (Bl.alloc L2.out (.cells #[.int .i64 N2, .int .i64 D2] 34)) h3)
        clear h3 A2 B2 C2 X2 L2 pa0 pa1 pb0 pb1 pc0 pc1 px0 px1
        generalize w2.heap.size = ky at *
        obtain ⟨_, pa0, pa1⟩ := A3.out
        obtain ⟨_, pb0, pb1⟩ := B3.out
        obtain ⟨_, pc0, pc1⟩ := C3.out
        obtain ⟨_, px0, px1⟩ := X3.out
        obtain ⟨_, py0, py1⟩ := Y3.out
        go_wp2_with fail
        go_quiet (fail)
        go_wp2_with fail
        refine (k12.out _).mono ?_
        rintro e w4 ⟨rfl, h4'⟩
        have h4 := undrew h4'
        clear h4'
        have X4 := hid ((X3.out.alloc (.cells #[.int .i64 N3, .int .i64 D3] 34)).bl h4)
        have Y4 := hid ((Y3.out.alloc (.cells #[.int .i64 N3, .int .i64 D3] 34)).bl h4)
        have Z4 := hid ((pr_new w3 (.int .i64 N3) (.int .i64 D3) 34).bl h4)
        have L4 := hid (Bl.trans (Bl.alloc L3.out (.cells #[.int .i64 N3, .int .i64 D3] 34)) h4)
        clear h4 A3 B3 C3 X3 Y3 L3 pa0 pa1 pb0 pb1 pc0 pc1 px0 px1 py0 py1
        generalize w3.heap.size = kz at *
        obtain ⟨_, px0, px1⟩ := X4.out
        obtain ⟨_, py0, py1⟩ := Y4.out
        obtain ⟨_, pz0, pz1⟩ := Z4.out
        go_wp2_with fail
        refine (awake_any _).mono ?_
        rintro e w5 ⟨rfl, h5⟩
        have X5 := hid (X4.out.bl h5)
        have Y5 := hid (Y4.out.bl h5)
        have Z5 := hid (Z4.out.bl h5)
        have L5 := hid (Bl.trans L4.out h5)
        clear h5 X4 Y4 Z4 L4 px0 px1 py0 py1 pz0 pz1
        obtain ⟨_, px0, px1⟩ := X5.out
        obtain ⟨_, py0, py1⟩ := Y5.out
        obtain ⟨_, pz0, pz1⟩ := Z5.out
        go_wp2_with fail
        refine (k23.out _).mono ?_
        rintro e w6 ⟨rfl, h6⟩
        have X6 := hid (X5.out.bl h6)
        have Y6 := hid (Y5.out.bl h6)
        have Z6 := hid (Z5.out.bl h6)
        have L6 := hid (Bl.trans L5.out h6)
        clear h6 X5 Y5 Z5 L5 px0 px1 py0 py1 pz0 pz1
        obtain ⟨_, px0, px1⟩ := X6.out
        obtain ⟨_, py0, py1⟩ := Y6.out
        obtain ⟨_, pz0, pz1⟩ := Z6.out
        go_wp2_with fail
        go_ret
        exact ⟨rfl, L6.out⟩
      · have gm : decide (0 < m) = false := decide_eq_false hm
        have hl : l ≤ 0 := htr.out (by decide) (by omega)
        clear htr
        go_enter Try.func10, Try.ntmps10
        go_wp2_with fail
        refine (m1.out _).mono ?_
        rintro e w1 ⟨rfl, h1⟩
        have A1 := hid ((((pr_new w (.int .i16 a0) (.int .i16 a1) 42).alloc (.cells #[.int .i16 b0, .int .i16 b1] 42)).alloc (.cells #[.int .i16 c0, .int .i16 c1] 42)).bl h1)
        have B1 := hid (((pr_new (w.alloc (.cells #[.int .i16 a0, .int .i16 a1] 42)) (.int .i16 b0) (.int .i16 b1) 42).alloc (.cells #[.int .i16 c0, .int .i16 c1] 42)).bl h1)
        have C1 := hid ((pr_new ((w.alloc (.cells #[.int .i16 a0, .int .i16 a1] 42)).alloc (.cells #[.int .i16 b0, .int .i16 b1] 42)) (.int .i16 c0) (.int .i16 c1) 42).bl h1)
        have L1 := hid (Bl.trans (Bl.alloc (Bl.alloc (Bl.alloc (Bl.refl w) (.cells #[.int .i16 a0, .int .i16 a1] 42)) (.cells #[.int .i16 b0, .int .i16 b1] 42)) (.cells #[.int .i16 c0, .int .i16 c1] 42)) h1)
        simp only [World.size_alloc] at B1 C1
        clear h1
        generalize w.heap.size = k at *
        obtain ⟨_, pa0, pa1⟩ := A1.out
        obtain ⟨_, pb0, pb1⟩ := B1.out
        obtain ⟨_, pc0, pc1⟩ := C1.out
        go_wp2_with fail
        refine (m2.out _).mono ?_
        rintro e w2 ⟨rfl, h2⟩
        have A2 := hid ((A1.out.alloc (.cells #[.int .i64 N1, .int .i64 D1] 34)).bl h2)
        have B2 := hid ((B1.out.alloc (.cells #[.int .i64 N1, .int .i64 D1] 34)).bl h2)
        have C2 := hid ((C1.out.alloc (.cells #[.int .i64 N1, .int .i64 D1] 34)).bl h2)
        have X2 := hid ((pr_new w1 (.int .i64 N1) (.int .i64 D1) 34).bl h2)
        have L2 := hid (Bl.trans (Bl.alloc L1.out (.cells #[.int .i64 N1, .int .i64 D1] 34)) h2)
        clear h2 A1 B1 C1 L1 pa0 pa1 pb0 pb1 pc0 pc1
        generalize w1.heap.size = kx at *
        obtain ⟨_, pa0, pa1⟩ := A2.out
        obtain ⟨_, pb0, pb1⟩ := B2.out
        obtain ⟨_, pc0, pc1⟩ := C2.out
        obtain ⟨_, px0, px1⟩ := X2.out
        go_wp2_with fail
        refine (m3.out _).mono ?_
        rintro e w3 ⟨rfl, h3⟩
        have A3 := hid ((A2.out.alloc (.cells #[.int .i64 N2, .int .i64 D2] 34)).bl h3)
        have B3 := hid ((B2.out.alloc (.cells #[.int .i64 N2, .int .i64 D2] 34)).bl h3)
        have C3 := hid ((C2.out.alloc (.cells #[.int .i64 N2, .int .i64 D2] 34)).bl h3)
        have X3 := hid ((X2.out.alloc (.cells #[.int .i64 N2, .int .i64 D2] 34)).bl h3)
        have Y3 := hid ((pr_new w2 (.int .i64 N2) (.int .i64 D2) 34).bl h3)
        have L3 := hid (Bl.trans (Bl.alloc L2.out (.cells #[.int .i64 N2, .int .i64 D2] 34)) h3)
        clear h3 A2 B2 C2 X2 L2 pa0 pa1 pb0 pb1 pc0 pc1 px0 px1
        generalize w2.heap.size = ky at *
        obtain ⟨_, pa0, pa1⟩ := A3.out
        obtain ⟨_, pb0, pb1⟩ := B3.out
        obtain ⟨_, pc0, pc1⟩ := C3.out
        obtain ⟨_, px0, px1⟩ := X3.out
        obtain ⟨_, py0, py1⟩ := Y3.out
        go_wp2_with fail
        go_quiet (fail)
        go_wp2_with fail
        refine (k12.out _).mono ?_
        rintro e w4 ⟨rfl, h4'⟩
        have h4 := undrew h4'
        clear h4'
        have X4 := hid ((X3.out.alloc (.cells #[.int .i64 N3, .int .i64 D3] 34)).bl h4)
        have Y4 := hid ((Y3.out.alloc (.cells #[.int .i64 N3, .int .i64 D3] 34)).bl h4)
        have Z4 := hid ((pr_new w3 (.int .i64 N3) (.int .i64 D3) 34).bl h4)
        have L4 := hid (Bl.trans (Bl.alloc L3.out (.cells #[.int .i64 N3, .int .i64 D3] 34)) h4)
        clear h4 A3 B3 C3 X3 Y3 L3 pa0 pa1 pb0 pb1 pc0 pc1 px0 px1 py0 py1
        generalize w3.heap.size = kz at *
        obtain ⟨_, px0, px1⟩ := X4.out
        obtain ⟨_, py0, py1⟩ := Y4.out
        obtain ⟨_, pz0, pz1⟩ := Z4.out
        go_wp2_with fail
        refine (awake_any _).mono ?_
        rintro e w5 ⟨rfl, h5⟩
        have X5 := hid (X4.out.bl h5)
        have Y5 := hid (Y4.out.bl h5)
        have Z5 := hid (Z4.out.bl h5)
        have L5 := hid (Bl.trans L4.out h5)
        clear h5 X4 Y4 Z4 L4 px0 px1 py0 py1 pz0 pz1
        obtain ⟨_, px0, px1⟩ := X5.out
        obtain ⟨_, py0, py1⟩ := Y5.out
        obtain ⟨_, pz0, pz1⟩ := Z5.out
        go_wp2_with fail
        refine (k23.out _).mono ?_
        rintro e w6 ⟨rfl, h6⟩
        have X6 := hid (X5.out.bl h6)
        have Y6 := hid (Y5.out.bl h6)
        have Z6 := hid (Z5.out.bl h6)
        have L6 := hid (Bl.trans L5.out h6)
        clear h6 X5 Y5 Z5 L5 px0 px1 py0 py1 pz0 pz1
        obtain ⟨_, px0, px1⟩ := X6.out
        obtain ⟨_, py0, py1⟩ := Y6.out
        obtain ⟨_, pz0, pz1⟩ := Z6.out
        go_wp2_with fail
        refine (k13.out _).mono ?_
        rintro e w7 ⟨rfl, h7⟩
        have X7 := hid (X6.out.bl h7)
        have Y7 := hid (Y6.out.bl h7)
        have Z7 := hid (Z6.out.bl h7)
        have L7 := hid (Bl.trans L6.out h7)
        clear h7 X6 Y6 Z6 L6 px0 px1 py0 py1 pz0 pz1
        obtain ⟨_, px0, px1⟩ := X7.out
        obtain ⟨_, py0, py1⟩ := Y7.out
        obtain ⟨_, pz0, pz1⟩ := Z7.out
        go_wp2_with fail
        go_ret
        exact ⟨rfl, L7.out⟩
  · have hn := hval.out
    rw [sn_eq heq] at hn
    rw [hn] at k12 htr
    obtain ⟨rfl, rfl⟩ := hone.out heq
    clear hn hself hone hval heq
    by_cases hm : 0 < m
    · have gm : decide (0 < m) = true := decide_eq_true hm
      clear htr
      go_enter Try.func10, Try.ntmps10
      go_wp2_with fail
      refine (m1.out _).mono ?_
      rintro e w1 ⟨rfl, h1⟩
      have A1 := hid ((((pr_new w (.int .i16 a0) (.int .i16 a1) 42).alloc (.cells #[.int .i16 b0, .int .i16 b1] 42)).alloc (.cells #[.int .i16 c0, .int .i16 c1] 42)).bl h1)
      have B1 := hid (((pr_new (w.alloc (.cells #[.int .i16 a0, .int .i16 a1] 42)) (.int .i16 b0) (.int .i16 b1) 42).alloc (.cells #[.int .i16 c0, .int .i16 c1] 42)).bl h1)
      have C1 := hid ((pr_new ((w.alloc (.cells #[.int .i16 a0, .int .i16 a1] 42)).alloc (.cells #[.int .i16 b0, .int .i16 b1] 42)) (.int .i16 c0) (.int .i16 c1) 42).bl h1)
      have L1 := hid (Bl.trans (Bl.alloc (Bl.alloc (Bl.alloc (Bl.refl w) (.cells #[.int .i16 a0, .int .i16 a1] 42)) (.cells #[.int .i16 b0, .int .i16 b1] 42)) (.cells #[.int .i16 c0, .int .i16 c1] 42)) h1)
      simp only [World.size_alloc] at B1 C1
      clear h1
      generalize w.heap.size = k at *
      obtain ⟨_, pa0, pa1⟩ := A1.out
      obtain ⟨_, pb0, pb1⟩ := B1.out
      obtain ⟨_, pc0, pc1⟩ := C1.out
      go_wp2_with fail
      refine (m2.out _).mono ?_
      rintro e w2 ⟨rfl, h2⟩
      have A2 := hid ((A1.out.alloc (.cells #[.int .i64 N1, .int .i64 D1] 34)).bl h2)
      have B2 := hid ((B1.out.alloc (.cells #[.int .i64 N1, .int .i64 D1] 34)).bl h2)
      have C2 := hid ((C1.out.alloc (.cells #[.int .i64 N1, .int .i64 D1] 34)).bl h2)
      have X2 := hid ((pr_new w1 (.int .i64 N1) (.int .i64 D1) 34).bl h2)
      have L2 := hid (Bl.trans (Bl.alloc L1.out (.cells #[.int .i64 N1, .int .i64 D1] 34)) h2)
      clear h2 A1 B1 C1 L1 pa0 pa1 pb0 pb1 pc0 pc1
      generalize w1.heap.size = kx at *
      obtain ⟨_, pa0, pa1⟩ := A2.out
      obtain ⟨_, pb0, pb1⟩ := B2.out
      obtain ⟨_, pc0, pc1⟩ := C2.out
      obtain ⟨_, px0, px1⟩ := X2.out
      go_wp2_with fail
      refine (m3.out _).mono ?_
      rintro e w3 ⟨rfl, h3⟩
      have A3 := hid ((A2.out.alloc (.cells #[.int .i64 N1, .int .i64 D1] 34)).bl h3)
      have B3 := hid ((B2.out.alloc (.cells #[.int .i64 N1, .int .i64 D1] 34)).bl h3)
      have C3 := hid ((C2.out.alloc (.cells #[.int .i64 N1, .int .i64 D1] 34)).bl h3)
      have X3 := hid ((X2.out.alloc (.cells #[.int .i64 N1, .int .i64 D1] 34)).bl h3)
      have Y3 := hid ((pr_new w2 (.int .i64 N1) (.int .i64 D1) 34).bl h3)
      have L3 := hid (Bl.trans (Bl.alloc L2.out (.cells #[.int .i64 N1, .int .i64 D1] 34)) h3)
      clear h3 A2 B2 C2 X2 L2 pa0 pa1 pb0 pb1 pc0 pc1 px0 px1
      generalize w2.heap.size = ky at *
      obtain ⟨_, pa0, pa1⟩ := A3.out
      obtain ⟨_, pb0, pb1⟩ := B3.out
      obtain ⟨_, pc0, pc1⟩ := C3.out
      obtain ⟨_, px0, px1⟩ := X3.out
      obtain ⟨_, py0, py1⟩ := Y3.out
      go_wp2_with fail
      go_quiet (fail)
      go_wp2_with fail
      refine (k12.out _).mono ?_
      rintro e w4 ⟨rfl, h4'⟩
      have h4 := undrew h4'
      clear h4'
      have X4 := hid ((X3.out.alloc (.cells #[.int .i64 N3, .int .i64 D3] 34)).bl h4)
      have Y4 := hid ((Y3.out.alloc (.cells #[.int .i64 N3, .int .i64 D3] 34)).bl h4)
      have Z4 := hid ((pr_new w3 (.int .i64 N3) (.int .i64 D3) 34).bl h4)
      have L4 := hid (Bl.trans (Bl.alloc L3.out (.cells #[.int .i64 N3, .int .i64 D3] 34)) h4)
      clear h4 A3 B3 C3 X3 Y3 L3 pa0 pa1 pb0 pb1 pc0 pc1 px0 px1 py0 py1
      generalize w3.heap.size = kz at *
      obtain ⟨_, px0, px1⟩ := X4.out
      obtain ⟨_, py0, py1⟩ := Y4.out
      obtain ⟨_, pz0, pz1⟩ := Z4.out
      go_wp2_with fail
      refine (awake_any _).mono ?_
      rintro e w5 ⟨rfl, h5⟩
      have X5 := hid (X4.out.bl h5)
      have Y5 := hid (Y4.out.bl h5)
      have Z5 := hid (Z4.out.bl h5)
      have L5 := hid (Bl.trans L4.out h5)
      clear h5 X4 Y4 Z4 L4 px0 px1 py0 py1 pz0 pz1
      obtain ⟨_, px0, px1⟩ := X5.out
      obtain ⟨_, py0, py1⟩ := Y5.out
      obtain ⟨_, pz0, pz1⟩ := Z5.out
      go_wp2_with fail
      refine (k23.out _).mono ?_
      rintro e w6 ⟨rfl, h6⟩
      have X6 := hid (X5.out.bl h6)
      have Y6 := hid (Y5.out.bl h6)
      have Z6 := hid (Z5.out.bl h6)
      have L6 := hid (Bl.trans L5.out h6)
      clear h6 X5 Y5 Z5 L5 px0 px1 py0 py1 pz0 pz1
      obtain ⟨_, px0, px1⟩ := X6.out
      obtain ⟨_, py0, py1⟩ := Y6.out
      obtain ⟨_, pz0, pz1⟩ := Z6.out
      go_wp2_with fail
      go_ret
      exact ⟨rfl, L6.out⟩
    · have gm : decide (0 < m) = false := decide_eq_false hm
      have hl : l ≤ 0 := htr.out (by decide) (by omega)
      clear htr
      go_enter Try.func10, Try.ntmps10
      go_wp2_with fail
      refine (m1.out _).mono ?_
      rintro e w1 ⟨rfl, h1⟩
      have A1 := hid ((((pr_new w (.int .i16 a0) (.int .i16 a1) 42).alloc (.cells #[.int .i16 b0, .int .i16 b1] 42)).alloc (.cells #[.int .i16 c0, .int .i16 c1] 42)).bl h1)
      have B1 := hid (((pr_new (w.alloc (.cells #[.int .i16 a0, .int .i16 a1] 42)) (.int .i16 b0) (.int .i16 b1) 42).alloc (.cells #[.int .i16 c0, .int .i16 c1] 42)).bl h1)
      have C1 := hid ((pr_new ((w.alloc (.cells #[.int .i16 a0, .int .i16 a1] 42)).alloc (.cells #[.int .i16 b0, .int .i16 b1] 42)) (.int .i16 c0) (.int .i16 c1) 42).bl h1)
      have L1 := hid (Bl.trans (Bl.alloc (Bl.alloc (Bl.alloc (Bl.refl w) (.cells #[.int .i16 a0, .int .i16 a1] 42)) (.cells #[.int .i16 b0, .int .i16 b1] 42)) (.cells #[.int .i16 c0, .int .i16 c1] 42)) h1)
      simp only [World.size_alloc] at B1 C1
      clear h1
      generalize w.heap.size = k at *
      obtain ⟨_, pa0, pa1⟩ := A1.out
      obtain ⟨_, pb0, pb1⟩ := B1.out
      obtain ⟨_, pc0, pc1⟩ := C1.out
      go_wp2_with fail
      refine (m2.out _).mono ?_
      rintro e w2 ⟨rfl, h2⟩
      have A2 := hid ((A1.out.alloc (.cells #[.int .i64 N1, .int .i64 D1] 34)).bl h2)
      have B2 := hid ((B1.out.alloc (.cells #[.int .i64 N1, .int .i64 D1] 34)).bl h2)
      have C2 := hid ((C1.out.alloc (.cells #[.int .i64 N1, .int .i64 D1] 34)).bl h2)
      have X2 := hid ((pr_new w1 (.int .i64 N1) (.int .i64 D1) 34).bl h2)
      have L2 := hid (Bl.trans (Bl.alloc L1.out (.cells #[.int .i64 N1, .int .i64 D1] 34)) h2)
      clear h2 A1 B1 C1 L1 pa0 pa1 pb0 pb1 pc0 pc1
      generalize w1.heap.size = kx at *
      obtain ⟨_, pa0, pa1⟩ := A2.out
      obtain ⟨_, pb0, pb1⟩ := B2.out
      obtain ⟨_, pc0, pc1⟩ := C2.out
      obtain ⟨_, px0, px1⟩ := X2.out
      go_wp2_with fail
      refine (m3.out _).mono ?_
      rintro e w3 ⟨rfl, h3⟩
      have A3 := hid ((A2.out.alloc (.cells #[.int .i64 N1, .int .i64 D1] 34)).bl h3)
      have B3 := hid ((B2.out.alloc (.cells #[.int .i64 N1, .int .i64 D1] 34)).bl h3)
      have C3 := hid ((C2.out.alloc (.cells #[.int .i64 N1, .int .i64 D1] 34)).bl h3)
      have X3 := hid ((X2.out.alloc (.cells #[.int .i64 N1, .int .i64 D1] 34)).bl h3)
      have Y3 := hid ((pr_new w2 (.int .i64 N1) (.int .i64 D1) 34).bl h3)
      have L3 := hid (Bl.trans (Bl.alloc L2.out (.cells #[.int .i64 N1, .int .i64 D1] 34)) h3)
      clear h3 A2 B2 C2 X2 L2 pa0 pa1 pb0 pb1 pc0 pc1 px0 px1
      generalize w2.heap.size = ky at *
      obtain ⟨_, pa0, pa1⟩ := A3.out
      obtain ⟨_, pb0, pb1⟩ := B3.out
      obtain ⟨_, pc0, pc1⟩ := C3.out
      obtain ⟨_, px0, px1⟩ := X3.out
      obtain ⟨_, py0, py1⟩ := Y3.out
      go_wp2_with fail
      go_quiet (fail)
      go_wp2_with fail
      refine (k12.out _).mono ?_
      rintro e w4 ⟨rfl, h4'⟩
      have h4 := undrew h4'
      clear h4'
      have X4 := hid ((X3.out.alloc (.cells #[.int .i64 N3, .int .i64 D3] 34)).bl h4)
      have Y4 := hid ((Y3.out.alloc (.cells #[.int .i64 N3, .int .i64 D3] 34)).bl h4)
      have Z4 := hid ((pr_new w3 (.int .i64 N3) (.int .i64 D3) 34).bl h4)
      have L4 := hid (Bl.trans (Bl.alloc L3.out (.cells #[.int .i64 N3, .int .i64 D3] 34)) h4)
      clear h4 A3 B3 C3 X3 Y3 L3 pa0 pa1 pb0 pb1 pc0 pc1 px0 px1 py0 py1
      generalize w3.heap.size = kz at *
      obtain ⟨_, px0, px1⟩ := X4.out
      obtain ⟨_, py0, py1⟩ := Y4.out
      obtain ⟨_, pz0, pz1⟩ := Z4.out
      go_wp2_with fail
      refine (awake_any _).mono ?_
      rintro e w5 ⟨rfl, h5⟩
      have X5 := hid (X4.out.bl h5)
      have Y5 := hid (Y4.out.bl h5)
      have Z5 := hid (Z4.out.bl h5)
      have L5 := hid (Bl.trans L4.out h5)
      clear h5 X4 Y4 Z4 L4 px0 px1 py0 py1 pz0 pz1
      obtain ⟨_, px0, px1⟩ := X5.out
      obtain ⟨_, py0, py1⟩ := Y5.out
      obtain ⟨_, pz0, pz1⟩ := Z5.out
      go_wp2_with fail
      refine (k23.out _).mono ?_
      rintro e w6 ⟨rfl, h6⟩
      have X6 := hid (X5.out.bl h6)
      have Y6 := hid (Y5.out.bl h6)
      have Z6 := hid (Z5.out.bl h6)
      have L6 := hid (Bl.trans L5.out h6)
      clear h6 X5 Y5 Z5 L5 px0 px1 py0 py1 pz0 pz1
      obtain ⟨_, px0, px1⟩ := X6.out
      obtain ⟨_, py0, py1⟩ := Y6.out
      obtain ⟨_, pz0, pz1⟩ := Z6.out
      go_wp2_with fail
      refine (k13.out _).mono ?_
      rintro e w7 ⟨rfl, h7⟩
      have X7 := hid (X6.out.bl h7)
      have Y7 := hid (Y6.out.bl h7)
      have Z7 := hid (Z6.out.bl h7)
      have L7 := hid (Bl.trans L6.out h7)
      clear h7 X6 Y6 Z6 L6 px0 px1 py0 py1 pz0 pz1
      obtain ⟨_, px0, px1⟩ := X7.out
      obtain ⟨_, py0, py1⟩ := Y7.out
      obtain ⟨_, pz0, pz1⟩ := Z7.out
      go_wp2_with fail
      go_ret
      exact ⟨rfl, L7.out⟩
  · have hn := hval.out
    rw [sn_gt hgt] at hn
    rw [hn] at k12 htr
    have hne : (N1 * D2 == N2 * D1) = false := by rw [beq_eq_false_iff_ne]; omega
    clear hn hself hone hval
    by_cases hNN : N1 = N2
    · have hDD : ¬ D1 = D2 := fun h => by subst hNN h; omega
      subst hNN
      clear htr
      go_enter Try.func10, Try.ntmps10
      go_wp2_with fail
      refine (m1.out _).mono ?_
      rintro e w1 ⟨rfl, h1⟩
      have A1 := hid ((((pr_new w (.int .i16 a0) (.int .i16 a1) 42).alloc (.cells #[.int .i16 b0, .int .i16 b1] 42)).alloc (.cells #[.int .i16 c0, .int .i16 c1] 42)).bl h1)
      have B1 := hid (((pr_new (w.alloc (.cells #[.int .i16 a0, .int .i16 a1] 42)) (.int .i16 b0) (.int .i16 b1) 42).alloc (.cells #[.int .i16 c0, .int .i16 c1] 42)).bl h1)
      have C1 := hid ((pr_new ((w.alloc (.cells #[.int .i16 a0, .int .i16 a1] 42)).alloc (.cells #[.int .i16 b0, .int .i16 b1] 42)) (.int .i16 c0) (.int .i16 c1) 42).bl h1)
      have L1 := hid (Bl.trans (Bl.alloc (Bl.alloc (Bl.alloc (Bl.refl w) (.cells #[.int .i16 a0, .int .i16 a1] 42)) (.cells #[.int .i16 b0, .int .i16 b1] 42)) (.cells #[.int .i16 c0, .int .i16 c1] 42)) h1)
      simp only [World.size_alloc] at B1 C1
      clear h1
      generalize w.heap.size = k at *
      obtain ⟨_, pa0, pa1⟩ := A1.out
      obtain ⟨_, pb0, pb1⟩ := B1.out
      obtain ⟨_, pc0, pc1⟩ := C1.out
      go_wp2_with fail
      refine (m2.out _).mono ?_
      rintro e w2 ⟨rfl, h2⟩
      have A2 := hid ((A1.out.alloc (.cells #[.int .i64 N1, .int .i64 D1] 34)).bl h2)
      have B2 := hid ((B1.out.alloc (.cells #[.int .i64 N1, .int .i64 D1] 34)).bl h2)
      have C2 := hid ((C1.out.alloc (.cells #[.int .i64 N1, .int .i64 D1] 34)).bl h2)
      have X2 := hid ((pr_new w1 (.int .i64 N1) (.int .i64 D1) 34).bl h2)
      have L2 := hid (Bl.trans (Bl.alloc L1.out (.cells #[.int .i64 N1, .int .i64 D1] 34)) h2)
      clear h2 A1 B1 C1 L1 pa0 pa1 pb0 pb1 pc0 pc1
      generalize w1.heap.size = kx at *
      obtain ⟨_, pa0, pa1⟩ := A2.out
      obtain ⟨_, pb0, pb1⟩ := B2.out
      obtain ⟨_, pc0, pc1⟩ := C2.out
      obtain ⟨_, px0, px1⟩ := X2.out
      go_wp2_with fail
      refine (m3.out _).mono ?_
      rintro e w3 ⟨rfl, h3⟩
      have A3 := hid ((A2.out.alloc (.cells #[.int .i64 N1, .int .i64 D2] 34)).bl h3)
      have B3 := hid ((B2.out.alloc (.cells #[.int .i64 N1, .int .i64 D2] 34)).bl h3)
      have C3 := hid ((C2.out.alloc (.cells #[.int .i64 N1, .int .i64 D2] 34)).bl h3)
      have X3 := hid ((X2.out.alloc (.cells #[.int .i64 N1, .int .i64 D2] 34)).bl h3)
      have Y3 := hid ((pr_new w2 (.int .i64 N1) (.int .i64 D2) 34).bl h3)
      have L3 := hid (Bl.trans (Bl.alloc L2.out (.cells #[.int .i64 N1, .int .i64 D2] 34)) h3)
      clear h3 A2 B2 C2 X2 L2 pa0 pa1 pb0 pb1 pc0 pc1 px0 px1
      generalize w2.heap.size = ky at *
      obtain ⟨_, pa0, pa1⟩ := A3.out
      obtain ⟨_, pb0, pb1⟩ := B3.out
      obtain ⟨_, pc0, pc1⟩ := C3.out
      obtain ⟨_, px0, px1⟩ := X3.out
      obtain ⟨_, py0, py1⟩ := Y3.out
      go_wp2_with fail
      go_quiet (fail)
      go_wp2_with fail
      refine (k12.out _).mono ?_
      rintro e w4 ⟨rfl, h4'⟩
      have h4 := undrew h4'
      clear h4'
      have X4 := hid ((X3.out.alloc (.cells #[.int .i64 N3, .int .i64 D3] 34)).bl h4)
      have Y4 := hid ((Y3.out.alloc (.cells #[.int .i64 N3, .int .i64 D3] 34)).bl h4)
      have Z4 := hid ((pr_new w3 (.int .i64 N3) (.int .i64 D3) 34).bl h4)
      have L4 := hid (Bl.trans (Bl.alloc L3.out (.cells #[.int .i64 N3, .int .i64 D3] 34)) h4)
      clear h4 A3 B3 C3 X3 Y3 L3 pa0 pa1 pb0 pb1 pc0 pc1 px0 px1 py0 py1
      generalize w3.heap.size = kz at *
      obtain ⟨_, px0, px1⟩ := X4.out
      obtain ⟨_, py0, py1⟩ := Y4.out
      obtain ⟨_, pz0, pz1⟩ := Z4.out
      go_wp2_with fail
      refine (awake_any _).mono ?_
      rintro e w5 ⟨rfl, h5⟩
      have X5 := hid (X4.out.bl h5)
      have Y5 := hid (Y4.out.bl h5)
      have Z5 := hid (Z4.out.bl h5)
      have L5 := hid (Bl.trans L4.out h5)
      clear h5 X4 Y4 Z4 L4 px0 px1 py0 py1 pz0 pz1
      obtain ⟨_, px0, px1⟩ := X5.out
      obtain ⟨_, py0, py1⟩ := Y5.out
      obtain ⟨_, pz0, pz1⟩ := Z5.out
      go_wp2_with fail
      go_ret
      exact ⟨rfl, L5.out⟩
    · clear htr
      go_enter Try.func10, Try.ntmps10
      go_wp2_with fail
      refine (m1.out _).mono ?_
      rintro e w1 ⟨rfl, h1⟩
      have A1 := hid ((((pr_new w (.int .i16 a0) (.int .i16 a1) 42).alloc (.cells #[.int .i16 b0, .int .i16 b1] 42)).alloc (.cells #[.int .i16 c0, .int .i16 c1] 42)).bl h1)
      have B1 := hid (((pr_new (w.alloc (.cells #[.int .i16 a0, .int .i16 a1] 42)) (.int .i16 b0) (.int .i16 b1) 42).alloc (.cells #[.int .i16 c0, .int .i16 c1] 42)).bl h1)
      have C1 := hid ((pr_new ((w.alloc (.cells #[.int .i16 a0, .int .i16 a1] 42)).alloc (.cells #[.int .i16 b0, .int .i16 b1] 42)) (.int .i16 c0) (.int .i16 c1) 42).bl h1)
      have L1 := hid (Bl.trans (Bl.alloc (Bl.alloc (Bl.alloc (Bl.refl w) (.cells #[.int .i16 a0, .int .i16 a1] 42)) (.cells #[.int .i16 b0, .int .i16 b1] 42)) (.cells #[.int .i16 c0, .int .i16 c1] 42)) h1)
      simp only [World.size_alloc] at B1 C1
      clear h1
      generalize w.heap.size = k at *
      obtain ⟨_, pa0, pa1⟩ := A1.out
      obtain ⟨_, pb0, pb1⟩ := B1.out
      obtain ⟨_, pc0, pc1⟩ := C1.out
      go_wp2_with fail
      refine (m2.out _).mono ?_
      rintro e w2 ⟨rfl, h2⟩
      have A2 := hid ((A1.out.alloc (.cells #[.int .i64 N1, .int .i64 D1] 34)).bl h2)
      have B2 := hid ((B1.out.alloc (.cells #[.int .i64 N1, .int .i64 D1] 34)).bl h2)
      have C2 := hid ((C1.out.alloc (.cells #[.int .i64 N1, .int .i64 D1] 34)).bl h2)
      have X2 := hid ((pr_new w1 (.int .i64 N1) (.int .i64 D1) 34).bl h2)
      have L2 := hid (Bl.trans (Bl.alloc L1.out (.cells #[.int .i64 N1, .int .i64 D1] 34)) h2)
      clear h2 A1 B1 C1 L1 pa0 pa1 pb0 pb1 pc0 pc1
      generalize w1.heap.size = kx at *
      obtain ⟨_, pa0, pa1⟩ := A2.out
      obtain ⟨_, pb0, pb1⟩ := B2.out
      obtain ⟨_, pc0, pc1⟩ := C2.out
      obtain ⟨_, px0, px1⟩ := X2.out
      go_wp2_with fail
      refine (m3.out _).mono ?_
      rintro e w3 ⟨rfl, h3⟩
      have A3 := hid ((A2.out.alloc (.cells #[.int .i64 N2, .int .i64 D2] 34)).bl h3)
      have B3 := hid ((B2.out.alloc (.cells #[.int .i64 N2, .int .i64 D2] 34)).bl h3)
      have C3 := hid ((C2.out.alloc (.cells #[.int .i64 N2, .int .i64 D2] 34)).bl h3)
      have X3 := hid ((X2.out.alloc (.cells #[.int .i64 N2, .int .i64 D2] 34)).bl h3)
      have Y3 := hid ((pr_new w2 (.int .i64 N2) (.int .i64 D2) 34).bl h3)
      have L3 := hid (Bl.trans (Bl.alloc L2.out (.cells #[.int .i64 N2, .int .i64 D2] 34)) h3)
      clear h3 A2 B2 C2 X2 L2 pa0 pa1 pb0 pb1 pc0 pc1 px0 px1
      generalize w2.heap.size = ky at *
      obtain ⟨_, pa0, pa1⟩ := A3.out
      obtain ⟨_, pb0, pb1⟩ := B3.out
      obtain ⟨_, pc0, pc1⟩ := C3.out
      obtain ⟨_, px0, px1⟩ := X3.out
      obtain ⟨_, py0, py1⟩ := Y3.out
      go_wp2_with fail
      go_quiet (fail)
      go_wp2_with fail
      refine (k12.out _).mono ?_
      rintro e w4 ⟨rfl, h4'⟩
      have h4 := undrew h4'
      clear h4'
      have X4 := hid ((X3.out.alloc (.cells #[.int .i64 N3, .int .i64 D3] 34)).bl h4)
      have Y4 := hid ((Y3.out.alloc (.cells #[.int .i64 N3, .int .i64 D3] 34)).bl h4)
      have Z4 := hid ((pr_new w3 (.int .i64 N3) (.int .i64 D3) 34).bl h4)
      have L4 := hid (Bl.trans (Bl.alloc L3.out (.cells #[.int .i64 N3, .int .i64 D3] 34)) h4)
      clear h4 A3 B3 C3 X3 Y3 L3 pa0 pa1 pb0 pb1 pc0 pc1 px0 px1 py0 py1
      generalize w3.heap.size = kz at *
      obtain ⟨_, px0, px1⟩ := X4.out
      obtain ⟨_, py0, py1⟩ := Y4.out
      obtain ⟨_, pz0, pz1⟩ := Z4.out
      go_wp2_with fail
      refine (awake_any _).mono ?_
      rintro e w5 ⟨rfl, h5⟩
      have X5 := hid (X4.out.bl h5)
      have Y5 := hid (Y4.out.bl h5)
      have Z5 := hid (Z4.out.bl h5)
      have L5 := hid (Bl.trans L4.out h5)
      clear h5 X4 Y4 Z4 L4 px0 px1 py0 py1 pz0 pz1
      obtain ⟨_, px0, px1⟩ := X5.out
      obtain ⟨_, py0, py1⟩ := Y5.out
      obtain ⟨_, pz0, pz1⟩ := Z5.out
      go_wp2_with fail
      go_ret
      exact ⟨rfl, L5.out⟩

theorem own : ownKnob Try.prog.godebug = none := by kernel_rfl
theorem cellsA : Try.prog.cellsOf 42 = 2 := by kernel_rfl
theorem cellsI : Try.prog.cellsOf 41 = 1 := by kernel_rfl

/-- a pair of int16, opened -/
theorem open_pair {H : Type} {enc : TypeId × Value → H} {w : World} {r : Reach} {base b0 : Nat} {sp : Nat → Bool} {held : Bool} {v : Value} {d : DataW H} {p : List MemPlace} (hv : Value.okWide Try.prog w r base 42 v) (h : DataW.Trod enc Try.prog w b0 sp held 42 v d p) :
    ∃ x y : Int, v = .agg #[.int .i16 x, .int .i16 y] ∧ d = .agg [.lit (.int .i16 x), .lit (.int .i16 y)] ∧ p = [] ∧ (Lit.int .i16 x).wf = true ∧ (Lit.int .i16 y).wf = true := by
  simp only [Value.okWide, Try.underlying42] at hv
  obtain ⟨cs, rfl, hsz, _⟩ := hv
  obtain ⟨l⟩ := cs
  match l, hsz.trans cellsA with
  | [u, v], _ =>
    obtain ⟨fuel, hf⟩ := h
    obtain ⟨xs, m, _, hx, _, hlen, hg⟩ := DataW.trod_array Try.underlying42 hf
    match xs, hlen with
    | [y0, y1], _ =>
      have g0 := hg 0 (by decide)
      have g1 := hg 1 (by decide)
      rw [cellsI] at g0 g1
      simp only [Value.cells] at g0 g1
      obtain ⟨x, e0, f0, w0⟩ := DataW.trod_int Try.underlying41 (by simpa using g0)
      obtain ⟨y, e1, f1, w1⟩ := DataW.trod_int Try.underlying41 (by simpa using g1)
      simp at e0 e1
      subst e0 e1
      simp only [Prod.mk.injEq] at hx
      exact ⟨x, y, rfl, by rw [hx.1, f0, f1]; rfl, by rw [hx.2, f0, f1]; rfl, w0, w1⟩
/-- .. and shut again -/
theorem shut_pair {H : Type} {enc : TypeId × Value → H} {w : World} {b0 : Nat} {sp : Nat → Bool} {held : Bool} {x y : Int} (hx : (Lit.int .i16 x).wf = true) (hy : (Lit.int .i16 y).wf = true) :
    DataW.Trod enc Try.prog w b0 sp held 42 (.agg #[.int .i16 x, .int .i16 y]) (.agg [.lit (.int .i16 x), .lit (.int .i16 y)]) [] :=
  ⟨2, by simp [DataW.trod, Try.underlying42, Try.underlying41, cellsA, cellsI, hx, hy, Value.cells, List.range, List.range.loop]⟩

set_option maxRecDepth 100000 in
theorem lifted (os : Os) (started : os.Started) (H : Type) (enc : TypeId × Value → H) :
    ReturnsInHanded {} Try.checked os 10 .any (Rows.numOrdersSpec.pre6 enc Try.prog Try.f10 Rows.numOrdersRow.domain false) (Rows.numOrdersSpec.post enc Try.prog Try.f10 false true false false) := by
  refine returnsInHanded_of_change (C := Try.checked) own started (by kernel_rfl) Try.func10
    (ChangeSpec.witness6 (enc := enc) (C := Try.checked) false ⟨#[], #[.agg #[.int .i16 0, .int .i16 0], .agg #[.int .i16 0, .int .i16 0], .agg #[.int .i16 0, .int .i16 0]], []⟩ 8 (by kernel_rfl) (by kernel_rfl) (by kernel_rfl) (by kernel_rfl)) ?_
  intro W base args ds gs before hval0 hW hcnd _
  have hval : ∀ (j : Nat) t v, Try.f10.params[j]? = some t → args[j]? = some v → Value.okWide Try.prog W .any base t v := hval0
  have hW' := hW
  obtain ⟨p, q, hA0, hV, rfl, hfz, hnd⟩ := hW
  have hA : DataW.TrodAll enc Try.prog W 0 (fun _ => true) true Try.f10.params.toList args.toList ds p := hA0
  rw [Try.params10] at hA hval
  obtain ⟨v0, v1, v2, d0, d1, d2, p0, p1, p2, rfl, rfl, rfl, h0, h1, h2⟩ := trodAll_three hA
  obtain ⟨rfl, rfl⟩ := trodVars_none hV
  obtain ⟨a0, a1, rfl, rfl, rfl, w0, w1⟩ := open_pair (hval 0 42 v0 rfl rfl) h0
  obtain ⟨b0, b1, rfl, rfl, rfl, w2, w3⟩ := open_pair (hval 1 42 v1 rfl rfl) h1
  obtain ⟨c0, c1, rfl, rfl, rfl, w4, w5⟩ := open_pair (hval 2 42 v2 rfl rfl) h2
  clear hA0 hval0
  refine (walk a0 a1 b0 b1 c0 c1 (bounds_i16 w0) (bounds_i16 w1) (bounds_i16 w2) (bounds_i16 w3) (bounds_i16 w4) (bounds_i16 w5) W).mono fun e W' ⟨he, hg⟩ => ?_
  subst he
  exact ⟨_, rfl, _, _, _, [], _, [], hW', trodAll_mk1 (shut_bool Try.underlying4 _), trodAll_mk3 (shut_pair w0 w1) (shut_pair w2 w3) (shut_pair w4 w5), rfl, hg.frame _, fun h => by cases h⟩

theorem holds : Rows.NumOrdersSaid :=
  OpenClaim.holds_of_wide 10 Try.f10 rfl rfl rfl rfl rfl rfl rfl ⟨rfl, rfl, rfl, rfl, rfl⟩ rfl rfl rfl rfl rfl (by kernel_rfl) Try.func10 (by kernel_rfl)
    (of_decide_eq_true (by kernel_rfl)) (by unfold Func.isWrapper; first | (rw [if_pos (by decide +kernel)]; kernel_rfl) | (rw [if_neg (by decide +kernel)]; exact ⟨rfl, rfl⟩))
    (fun os started H enc _ => lifted os started H enc)
end Go.Proofs.Ytjnlbgmfhomepaa.NumOrders
