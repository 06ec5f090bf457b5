/- Plain facts that the statements about geom lean on: bounds of areas; a distance is zero just on the segment. -/
import Derived.Test.YtjdkgndecnhokaaEAwake
namespace Go.Proofs.Ytjdkgndecnhokaa.Geom
open Go.RowKit
open Go.Proofs.Ytjdkgndecnhokaa.Wire
set_option linter.unusedVariables false

theorem tw_near {a b c : P} (hn : Nrs [a, b, c]) : tw a b c = crs a b a c := by unfold tw; rw [if_pos hn]
theorem red_pos {C n : Int} (hC : 0 ≤ C) (hn : 0 < n) (hb : n ≤ 35184372088832) : 0 ≤ (red C n).1 ∧ 1 ≤ (red C n).2 ∧ ((red C n).1 = 0 ↔ C = 0) := by
  unfold red
  by_cases h0 : C = 0
  · rw [if_pos h0]
    exact ⟨by decide, by decide, fun _ => h0, fun _ => rfl⟩
  · rw [if_neg h0]
    have hCC : 0 < C * C := Int.mul_pos (by omega) (by omega)
    have hg : 0 < (Int.gcd (C * C) n : Int) := by
      have : 0 < Int.gcd (C * C) n := Int.gcd_pos_of_ne_zero_left _ (by omega)
      omega
    obtain ⟨k, hk⟩ := Int.gcd_dvd_left (C * C) n
    obtain ⟨m, hm⟩ := Int.gcd_dvd_right (C * C) n
    generalize (Int.gcd (C * C) n : Int) = g at *
    have e1 : C * C / g = k := by rw [hk, Int.mul_ediv_cancel_left _ (by omega)]
    have e2 : n / g = m := by rw [hm, Int.mul_ediv_cancel_left _ (by omega)]
    have hkp : 0 < k := by
      rcases Int.lt_or_le 0 k with h | h
      · exact h
      · have := Int.mul_nonneg (show 0 ≤ g by omega) (show 0 ≤ -k by omega)
        have e : g * -k = -(g * k) := by grind
        omega
    have hmp : 0 < m := by
      rcases Int.lt_or_le 0 m with h | h
      · exact h
      · have := Int.mul_nonneg (show 0 ≤ g by omega) (show 0 ≤ -m by omega)
        have e : g * -m = -(g * m) := by grind
        omega
    split
    · rename_i hbig
      rw [e1] at hbig
      have h1 : k ≤ C * C := by
        rw [hk]
        have := Int.mul_nonneg (show 0 ≤ g - 1 by omega) (show 0 ≤ k by omega)
        have e : (g - 1) * k = g * k - k := by grind
        omega
      have h2 : 0 < C * C / n := by
        have := (Int.le_ediv_iff_mul_le (a := 1) (b := C * C) (c := n) hn).2 (by omega)
        omega
      exact ⟨by show 0 ≤ C * C / n; omega, Int.le_refl 1, fun h => by have h' : C * C / n = 0 := h; omega, fun h => absurd h h0⟩
    · show 0 ≤ C * C / g ∧ 1 ≤ n / g ∧ (C * C / g = 0 ↔ C = 0)
      rw [e1, e2]
      exact ⟨by omega, by omega, fun h => by omega, fun h => absurd h h0⟩
theorem dt_bb (a b p : P) : dt a p b p = dt b p b p + (dt a b a p - dt a b a b) := by unfold dt; grind
theorem dis_one {a b p : P} (hn : Nrs [a, b, p]) : 0 ≤ (dis a b p).1 ∧ 1 ≤ (dis a b p).2 ∧ ((dis a b p).1 = 0 ↔ on a b p = true) := by
  have h3 := nrs3.1 hn
  rw [dis_near hn, on_iff hn]
  have n1 := dt_nn a p
  have n2 := dt_nn b p
  have n0 := dt_nn a b
  by_cases h1 : dt a b a p ≤ 0
  · rw [if_pos h1]
    refine ⟨n1, Int.le_refl 1, fun h => ?_, fun h => ?_⟩
    · have h' : dt a p a p = 0 := h
      obtain rfl := dt_zero.1 h'
      exact ⟨crs_pp _ _ _, by unfold dt; simp⟩
    · have e := dt_bp a b p
      show dt a p a p = 0
      omega
  · rw [if_neg h1]
    by_cases h2 : dt a b a b ≤ dt a b a p
    · rw [if_pos h2]
      refine ⟨n2, Int.le_refl 1, fun h => ?_, fun h => ?_⟩
      · have h' : dt b p b p = 0 := h
        obtain rfl := dt_zero.1 h'
        exact ⟨by unfold crs; grind, by unfold dt; simp⟩
      · have e := dt_bb a b p
        show dt b p b p = 0
        omega
    · rw [if_neg h2]
      have hbnd := (dt_bound h3.1 h3.2.1 h3.1 h3.2.1).2
      obtain ⟨r1, r2, r3⟩ := red_pos (C := ab (crs a b a p)) (n := dt a b a b) (by unfold ab; split <;> omega) (by omega) hbnd
      refine ⟨r1, r2, r3.trans ⟨fun h => ?_, fun h => ?_⟩⟩
      · have h0 : crs a b a p = 0 := by unfold ab at h; split at h <;> omega
        have hab : a ≠ b := fun e => by subst e; have : dt a a a a = 0 := dt_zero.2 rfl; omega
        exact ⟨h0, (on_range h0 hab).2 ⟨by omega, by omega⟩⟩
      · rw [h.1]; rfl
theorem on_far {a b p : P} (h : ¬ Nrs [a, b, p]) : on a b p = false := by unfold on; exact decide_eq_false fun g => h g.1
theorem eql_yes {x1 x2 y1 y2 : Int} (h : (x1, x2) = (y1, y2)) (w : World) : (binOp .eql 23 (.agg #[.int .i64 x1, .int .i64 x2]) (.agg #[.int .i64 y1, .int .i64 y2])).run Try.prog w = .ok (.bool true) w := by rw [eqlP, decide_eq_true h]
set_option maxHeartbeats 1000000 in
theorem equal_any (o a b : P) (w : World) :
    Calls Try.prog 23 #[.agg #[.int .i64 o.1, .int .i64 o.2], .agg #[.int .i64 a.1, .int .i64 a.2], .agg #[.int .i64 b.1, .int .i64 b.2]] w fun e w' => e = .returned (.bool (eqd o a b)) ∧ Bl w w' := by
  have c1' := fun w' => Less_any o a b w'
  have c2' := fun w' => Less_any o b a w'
  have e : eqd o a b = (!les o a b && !les o b a) := rfl
  obtain ⟨o1, o2⟩ := o
  obtain ⟨a1, a2⟩ := a
  obtain ⟨b1, b2⟩ := b
  cases h1 : les (o1, o2) (a1, a2) (b1, b2)
  · have fin : eqd (o1, o2) (a1, a2) (b1, b2) = !les (o1, o2) (b1, b2) (a1, a2) := by rw [e, h1]; rfl
    have F := hid fin
    rw [h1] at c1'
    generalize les (o1, o2) (b1, b2) (a1, a2) = L2 at *
    have c1 := hid c1'
    have c2 := hid c2'
    clear c1' c2' e fin h1
    go_enter Try.func23, Try.ntmps23
    go_wp2_with fail
    refine (c1.out _).mono ?_
    rintro e w1 ⟨rfl, hb⟩
    obtain ⟨x1, x2, x3⟩ := box3 hb
    have k1 := x1.c0
    have k2 := x1.c1
    have k3 := x2.c0
    have k4 := x2.c1
    have k5 := x3.c0
    have k6 := x3.c1
    have hB1 : Bl w w1 := Bl.trans ((((Bl.refl w).alloc _).alloc _).alloc _) hb
    clear x1 x2 x3 hb
    go_wp2_with fail
    refine (c2.out _).mono ?_
    rintro e w2 ⟨rfl, hb2⟩
    go_wp2_with fail
    go_ret
    exact ⟨retB F.out.symm, hB1.trans hb2⟩
  · have F := hid (show eqd (o1, o2) (a1, a2) (b1, b2) = false by rw [e, h1]; rfl)
    rw [h1] at c1'
    have c1 := hid c1'
    clear c1' c2' e h1
    go_enter Try.func23, Try.ntmps23
    go_wp2_with fail
    refine (c1.out _).mono ?_
    rintro e w1 ⟨rfl, hb⟩
    go_wp2_with fail
    go_ret
    exact ⟨retB F.out.symm, Bl.trans ((((Bl.refl w).alloc _).alloc _).alloc _) hb⟩
end Go.Proofs.Ytjdkgndecnhokaa.Geom
