/- Contracts of On and Less of geom as it landed. -/
import Derived.Test.YtjdkgndecnhokaaECode5
import Derived.Test.YtjdkgndecnhokaaELess2
namespace Go.Proofs.Ytjdkgndecnhokaa.Geom
open Go.RowKit
open Go.Proofs.Ytjdkgndecnhokaa.Wire
set_option linter.unusedVariables false

theorem lo_hi {x y p : Int} : (lo x y ≤ p ∧ p ≤ hi x y) ↔ btw x y p := by unfold lo hi btw; split <;> omega
theorem inn_aro {a b p : P} : inn (lo a.1 b.1) (lo a.2 b.2) (hi a.1 b.1) (hi a.2 b.2) p.1 p.2 = decide (btw a.1 b.1 p.1 ∧ btw a.2 b.2 p.2) := by
  unfold inn
  refine decide_eq_decide.2 ?_
  rw [← lo_hi, ← lo_hi]
  omega
theorem On_any (a b p : P) (w : World) :
    Calls Try.prog 15 #[.agg #[.int .i64 a.1, .int .i64 a.2], .agg #[.int .i64 b.1, .int .i64 b.2], .agg #[.int .i64 p.1, .int .i64 p.2]] w (fun e w' => e = .returned (.bool (on a b p)) ∧ Bl w w') := by
  have n1 := fun w' T g hg => Near3 a b p w' T g hg
  by_cases hn : Nrs [a, b, p]
  · rw [decide_eq_true hn] at n1
    have h3 := nrs3.1 hn
    have c1 := fun w' => Cross_in a b p w' h3.1 h3.2.1 h3.2.2
    rw [on_land hn]
    by_cases h0 : crs a b a p = 0
    · have a1 := fun w' => Around_in a b w'
      have i1 := fun w' => In_any (lo a.1 b.1) (lo a.2 b.2) (hi a.1 b.1) (hi a.2 b.2) p.1 p.2 w'
      rw [h0] at c1
      rw [inn_aro] at i1
      rw [show decide (crs a b a p = 0 ∧ btw a.1 b.1 p.1 ∧ btw a.2 b.2 p.2) = decide (btw a.1 b.1 p.1 ∧ btw a.2 b.2 p.2) by simp [h0]]
      exact On_line a.1 a.2 b.1 b.2 p.1 p.2 w _ _ _ _ _ (hid n1) (hid c1) (hid a1) (hid i1)
    · rw [decide_eq_false (fun h => h0 h.1)]
      exact On_off a.1 a.2 b.1 b.2 p.1 p.2 w (hid n1) _ (beq_eq_false_iff_ne.2 h0) (hid c1)
  · rw [decide_eq_false hn] at n1
    rw [show on a b p = false by unfold on; exact decide_eq_false fun h => hn h.1]
    exact On_far a.1 a.2 b.1 b.2 p.1 p.2 w (hid n1)

set_option maxHeartbeats 4000000 in
theorem Less_any (o a b : P) (w : World) :
    Calls Try.prog 20 #[.agg #[.int .i64 o.1, .int .i64 o.2], .agg #[.int .i64 a.1, .int .i64 a.2], .agg #[.int .i64 b.1, .int .i64 b.2]] w (fun e w' => e = .returned (.bool (les o a b)) ∧ Bl w w') := by
  have n1 := fun w' T g hg => Near3 o a b w' T g hg
  by_cases hn : Nrs [o, a, b]
  · rw [decide_eq_true hn] at n1
    have h3 := nrs3.1 hn
    by_cases ha : a = o
    · have fin := hid (les_a (b := b) ha)
      subst ha
      have N1 := hid n1
      clear n1 hn h3
      generalize les a a b = X at *
      obtain ⟨a1, a2⟩ := a
      obtain ⟨b1, b2⟩ := b
      simp only at N1
      go_enter Try.func20, Try.ntmps20
      go_wp2_with fail
      refine (N1.out _ _ _ (by simp)).mono ?_
      rintro e w1 ⟨rfl, hb1⟩
      obtain ⟨x1, x2, x3⟩ := box3 (Bl.trans ((Bl.refl _).alloc _) hb1)
      have k1 := x1.c0
      have k2 := x1.c1
      have k3 := x2.c0
      have k4 := x2.c1
      have k5 := x3.c0
      have k6 := x3.c1
      have HB := hid (Bl.trans ((((Bl.refl w).alloc _).alloc _).alloc _ |>.alloc _) hb1)
      clear hb1 x1 x2 x3
      go_wp2_with fail
      go_ret
      exact ⟨retB fin.out.symm, HB.out⟩
    have qa := eq_two ha
    by_cases hb : b = o
    · have fin := hid (les_b (a := a) hb)
      subst hb
      have N1 := hid n1
      clear n1 hn h3 ha
      generalize les b a b = X at *
      obtain ⟨a1, a2⟩ := a
      obtain ⟨b1, b2⟩ := b
      simp only at N1
      rcases qa with qa | ⟨qa1, qa2⟩
      all_goals
        go_enter Try.func20, Try.ntmps20
        go_wp2_with fail
        refine (N1.out _ _ _ (by simp)).mono ?_
        rintro e w1 ⟨rfl, hb1⟩
        obtain ⟨x1, x2, x3⟩ := box3 (Bl.trans ((Bl.refl _).alloc _) hb1)
        have k1 := x1.c0
        have k2 := x1.c1
        have k3 := x2.c0
        have k4 := x2.c1
        have k5 := x3.c0
        have k6 := x3.c1
        have HB := hid (Bl.trans ((((Bl.refl w).alloc _).alloc _).alloc _ |>.alloc _) hb1)
        clear hb1 x1 x2 x3
        go_wp2_with fail
        go_ret
        exact ⟨retB fin.out.symm, HB.out⟩
    have e := hid (les_half hn ha hb)
    have qb := eq_two hb
    have N1 := hid n1
    have c1 := hid (fun w' => Half_in o a w')
    have c2 := hid (fun w' => Half_in o b w')
    have c3 := hid (fun w' => Cross_in o a b w' h3.1 h3.2.1 h3.2.2)
    clear n1 hn h3 ha hb
    generalize les o a b = X at *
    generalize hs o a = Q1 at *
    generalize hs o b = Q2 at *
    generalize crs o a o b = Y at *
    obtain ⟨o1, o2⟩ := o
    obtain ⟨a1, a2⟩ := a
    obtain ⟨b1, b2⟩ := b
    simp only at N1 c1 c2 c3
    cases Q1 <;> cases Q2
    all_goals
      simp only [if_true, if_false, Bool.true_eq_false, Bool.false_eq_true] at e
      rcases qa with qa | ⟨qa1, qa2⟩ <;> rcases qb with qb | ⟨qb1, qb2⟩
    all_goals
      go_enter Try.func20, Try.ntmps20
      go_wp2_with fail
      refine (N1.out _ _ _ (by simp)).mono ?_
      rintro e w1 ⟨rfl, hb1⟩
      obtain ⟨x1, x2, x3⟩ := box3 (Bl.trans ((Bl.refl _).alloc _) hb1)
      have k1 := x1.c0
      have k2 := x1.c1
      have k3 := x2.c0
      have k4 := x2.c1
      have k5 := x3.c0
      have k6 := x3.c1
      have HB := hid (Bl.trans ((((Bl.refl w).alloc _).alloc _).alloc _ |>.alloc _) hb1)
      clear hb1
      go_wp2_with fail
      refine (c2.out _).mono ?_
      rintro e w2 ⟨rfl, hb2⟩
      clear k1 k2 k3 k4 k5 k6
      have x1 := x1.bl hb2
      have x2 := x2.bl hb2
      have x3 := x3.bl hb2
      have k1 := x1.c0
      have k2 := x1.c1
      have k3 := x2.c0
      have k4 := x2.c1
      have k5 := x3.c0
      have k6 := x3.c1
      have HB2 := hid (Bl.trans HB.out hb2)
      clear hb2
      go_wp2_with fail
      refine (c1.out _).mono ?_
      rintro e w3 ⟨rfl, hb3⟩
      clear k1 k2 k3 k4 k5 k6
      have x1 := x1.bl hb3
      have x2 := x2.bl hb3
      have x3 := x3.bl hb3
      have k1 := x1.c0
      have k2 := x1.c1
      have k3 := x2.c0
      have k4 := x2.c1
      have k5 := x3.c0
      have k6 := x3.c1
      have HB3 := hid (Bl.trans HB2.out hb3)
      clear hb3 x1 x2 x3
      go_wp2_with fail
      first
      | (refine (c3.out _).mono ?_
         rintro e w4 ⟨rfl, hb4⟩
         go_wp2_with fail
         go_ret
         exact ⟨retB e.out.symm, HB3.out.trans hb4⟩)
      | (go_ret
         exact ⟨retB e.out.symm, HB3.out⟩)
  · have fin := hid (les_far hn)
    rw [decide_eq_false hn] at n1
    have N1 := hid n1
    clear n1 hn
    generalize les o a b = X at *
    obtain ⟨o1, o2⟩ := o
    obtain ⟨a1, a2⟩ := a
    obtain ⟨b1, b2⟩ := b
    simp only at N1
    go_enter Try.func20, Try.ntmps20
    go_wp2_with fail
    refine (N1.out _ _ _ (by simp)).mono ?_
    rintro e w1 ⟨rfl, hb1⟩
    have HB := hid (Bl.trans ((((Bl.refl w).alloc _).alloc _).alloc _ |>.alloc _) hb1)
    clear hb1
    go_wp2_with fail
    go_ret
    exact ⟨retB fin.out.symm, HB.out⟩
end Go.Proofs.Ytjdkgndecnhokaa.Geom
