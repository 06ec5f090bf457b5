/- Contracts of the small functions of geom as it landed: In, cross, dot, around, inSecondHalf, near, Side's comparison. -/
import Derived.Test.YtjdkgndecnhokaaEShared
import Derived.Test.YtjdkgndecnhokaaELand
namespace Go.Proofs.Ytjdkgndecnhokaa.Geom
open Go.RowKit
open Go.Proofs.Ytjdkgndecnhokaa.Wire
set_option linter.unusedVariables false

set_option maxHeartbeats 400000 in
theorem Compare0 (x : Int) (w : World) :
    Calls Try.prog 35 #[.int .i64 x, .int .i64 0] w fun e w' => e = .returned (.int .i64 (sgn x)) ∧ w = w' := by
  rcases Int.lt_trichotomy x 0 with h | h | h
  · have hs := hid (show sgn x = -1 by unfold sgn; rw [if_neg (by omega), if_pos h])
    go_enter Try.func35, Try.ntmps35
    go_wp2
    go_ret
    exact ⟨ret1 (by rw [hs.out]), rfl⟩
  · subst h
    have hs := hid (show sgn 0 = 0 by rfl)
    go_enter Try.func35, Try.ntmps35
    go_wp2
    go_ret
    exact ⟨ret1 (by rw [hs.out]), rfl⟩
  · have hs := hid (show sgn x = 1 by unfold sgn; rw [if_pos h])
    go_enter Try.func35, Try.ntmps35
    go_wp2
    go_ret
    exact ⟨ret1 (by rw [hs.out]), rfl⟩

set_option maxHeartbeats 1000000 in
theorem In_any (x0 y0 x1 y1 p1 p2 : Int) (w : World) :
    Calls Try.prog 27 #[.agg #[.int .i64 x0, .int .i64 y0, .int .i64 x1, .int .i64 y1], .agg #[.int .i64 p1, .int .i64 p2]] w fun e w' => e = .returned (.bool (inn x0 y0 x1 y1 p1 p2)) ∧ Bl w w' := by
  have e := hid (show inn x0 y0 x1 y1 p1 p2 = decide (x0 ≤ p1 ∧ p1 ≤ x1 ∧ y0 ≤ p2 ∧ p2 ≤ y1) from rfl)
  generalize inn x0 y0 x1 y1 p1 p2 = X at *
  by_cases h1 : x0 ≤ p1
  · by_cases h2 : p1 ≤ x1
    · by_cases h3 : y0 ≤ p2
      · by_cases h4 : p2 ≤ y1
        · have fin := hid (show X = true by rw [e.out]; exact decide_eq_true (by omega))
          go_enter Try.func27, Try.ntmps27
          go_wp2_with fail
          go_ret
          exact ⟨retB fin.out.symm, ((Bl.refl w).alloc _).alloc _⟩
        · have fin := hid (show X = false by rw [e.out]; exact decide_eq_false (by omega))
          have d4 : decide (p2 ≤ y1) = false := decide_eq_false h4
          go_enter Try.func27, Try.ntmps27
          go_wp2_with fail
          go_ret
          exact ⟨retB fin.out.symm, ((Bl.refl w).alloc _).alloc _⟩
      · have fin := hid (show X = false by rw [e.out]; exact decide_eq_false (by omega))
        have d3 : decide (y0 ≤ p2) = false := decide_eq_false h3
        go_enter Try.func27, Try.ntmps27
        go_wp2_with fail
        go_ret
        exact ⟨retB fin.out.symm, ((Bl.refl w).alloc _).alloc _⟩
    · have fin := hid (show X = false by rw [e.out]; exact decide_eq_false (by omega))
      have d2 : decide (p1 ≤ x1) = false := decide_eq_false h2
      go_enter Try.func27, Try.ntmps27
      go_wp2_with fail
      go_ret
      exact ⟨retB fin.out.symm, ((Bl.refl w).alloc _).alloc _⟩
  · have fin := hid (show X = false by rw [e.out]; exact decide_eq_false (by omega))
    have d1 : decide (x0 ≤ p1) = false := decide_eq_false h1
    go_enter Try.func27, Try.ntmps27
    go_wp2_with fail
    go_ret
    exact ⟨retB fin.out.symm, ((Bl.refl w).alloc _).alloc _⟩

set_option maxHeartbeats 1000000 in
theorem Cross_in (o a b : P) (w : World) (ho : Nr o) (ha : Nr a) (hb : Nr b) :
    Calls Try.prog 33 #[.agg #[.int .i64 o.1, .int .i64 o.2], .agg #[.int .i64 a.1, .int .i64 a.2], .agg #[.int .i64 b.1, .int .i64 b.2]] w fun e w' => e = .returned (.int .i64 (crs o a o b)) ∧ Bl w w' := by
  obtain ⟨o1, o2⟩ := o
  obtain ⟨a1, a2⟩ := a
  obtain ⟨b1, b2⟩ := b
  have e := hid (show crs (o1, o2) (a1, a2) (o1, o2) (b1, b2) = (a1 - o1) * (b2 - o2) - (a2 - o2) * (b1 - o1) from rfl)
  unfold Nr at ho ha hb
  simp only at ho ha hb
  obtain ⟨x1, x2, x3, x4⟩ := ho
  obtain ⟨y1, y2, y3, y4⟩ := ha
  obtain ⟨z1, z2, z3, z4⟩ := hb
  have p1 := prod_bound (u := a1 - o1) (v := b2 - o2) (by omega) (by omega) (by omega) (by omega)
  have p2 := prod_bound (u := a2 - o2) (v := b1 - o1) (by omega) (by omega) (by omega) (by omega)
  obtain ⟨p11, p12⟩ := p1
  obtain ⟨p21, p22⟩ := p2
  generalize crs (o1, o2) (a1, a2) (o1, o2) (b1, b2) = R at *
  go_enter Try.func33, Try.ntmps33
  go_wp2_with fail
  go_ret
  exact ⟨ret1 (by rw [e.out]), (((Bl.refl w).alloc _).alloc _).alloc _⟩
set_option maxHeartbeats 1000000 in
theorem Dot_in (o a b : P) (w : World) (ho : Nr o) (ha : Nr a) (hb : Nr b) :
    Calls Try.prog 43 #[.agg #[.int .i64 o.1, .int .i64 o.2], .agg #[.int .i64 a.1, .int .i64 a.2], .agg #[.int .i64 b.1, .int .i64 b.2]] w fun e w' => e = .returned (.int .i64 (dt o a o b)) ∧ Bl w w' := by
  obtain ⟨o1, o2⟩ := o
  obtain ⟨a1, a2⟩ := a
  obtain ⟨b1, b2⟩ := b
  have e := hid (show dt (o1, o2) (a1, a2) (o1, o2) (b1, b2) = (a1 - o1) * (b1 - o1) + (a2 - o2) * (b2 - o2) from rfl)
  unfold Nr at ho ha hb
  simp only at ho ha hb
  obtain ⟨x1, x2, x3, x4⟩ := ho
  obtain ⟨y1, y2, y3, y4⟩ := ha
  obtain ⟨z1, z2, z3, z4⟩ := hb
  have p1 := prod_bound (u := a1 - o1) (v := b1 - o1) (by omega) (by omega) (by omega) (by omega)
  have p2 := prod_bound (u := a2 - o2) (v := b2 - o2) (by omega) (by omega) (by omega) (by omega)
  obtain ⟨p11, p12⟩ := p1
  obtain ⟨p21, p22⟩ := p2
  generalize dt (o1, o2) (a1, a2) (o1, o2) (b1, b2) = R at *
  go_enter Try.func43, Try.ntmps43
  go_wp2_with fail
  go_ret
  exact ⟨ret1 (by rw [e.out]), (((Bl.refl w).alloc _).alloc _).alloc _⟩

set_option maxHeartbeats 1000000 in
theorem Half_in (o p : P) (w : World) :
    Calls Try.prog 41 #[.agg #[.int .i64 o.1, .int .i64 o.2], .agg #[.int .i64 p.1, .int .i64 p.2]] w fun e w' => e = .returned (.bool (hs o p)) ∧ Bl w w' := by
  obtain ⟨o1, o2⟩ := o
  obtain ⟨p1, p2⟩ := p
  have e := hid (show hs (o1, o2) (p1, p2) = decide (p2 < o2 ∨ p2 = o2 ∧ p1 < o1) from rfl)
  generalize hs (o1, o2) (p1, p2) = X at *
  simp only
  by_cases h1 : p2 < o2
  · have fin := hid (show X = true by rw [e.out]; exact decide_eq_true (.inl h1))
    go_enter Try.func41, Try.ntmps41
    go_wp2_with fail
    go_ret
    exact ⟨retB fin.out.symm, ((Bl.refl w).alloc _).alloc _⟩
  · have d1 : decide (p2 < o2) = false := decide_eq_false h1
    by_cases h2 : p2 = o2
    · subst h2
      by_cases h3 : p1 < o1
      · have fin := hid (show X = true by rw [e.out]; exact decide_eq_true (.inr ⟨rfl, h3⟩))
        go_enter Try.func41, Try.ntmps41
        go_wp2_with fail
        go_ret
        exact ⟨retB fin.out.symm, ((Bl.refl w).alloc _).alloc _⟩
      · have fin := hid (show X = false by rw [e.out]; exact decide_eq_false (by omega))
        have d3 : decide (p1 < o1) = false := decide_eq_false h3
        go_enter Try.func41, Try.ntmps41
        go_wp2_with fail
        go_ret
        exact ⟨retB fin.out.symm, ((Bl.refl w).alloc _).alloc _⟩
    · have fin := hid (show X = false by rw [e.out]; exact decide_eq_false (by omega))
      have t2 : (p2 == o2) = false := by simpa using h2
      go_enter Try.func41, Try.ntmps41
      go_wp2_with fail
      go_ret
      exact ⟨retB fin.out.symm, ((Bl.refl w).alloc _).alloc _⟩
end Go.Proofs.Ytjdkgndecnhokaa.Geom
