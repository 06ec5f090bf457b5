/- Contracts of the reference of geom: quarter, Less, In, Overlap. -/
import Derived.Test.YtjdkgndecnhokaaEShared
import Derived.Deep.RegionHeld3
namespace Go.Proofs.Ytjdkgndecnhokaa.Geom
open Go.RowKit
open Go.Proofs.Ytjdkgndecnhokaa.Wire
set_option linter.unusedVariables false

set_option maxHeartbeats 1000000 in
theorem RQuarter_any (o a : P) (w : World) (ho : Nr o) (ha : Nr a) :
    Calls Try.prog 42 #[.agg #[.int .i64 o.1, .int .i64 o.2], .agg #[.int .i64 a.1, .int .i64 a.2]] w fun e w' => e = .returned (.int .i64 (qt o a)) ∧ Bl w w' := by
  obtain ⟨o1, o2⟩ := o
  obtain ⟨a1, a2⟩ := a
  have e := hid (show qt (o1, o2) (a1, a2) = if 0 < a1 - o1 ∧ 0 ≤ a2 - o2 then 0 else if a1 - o1 ≤ 0 ∧ 0 < a2 - o2 then 1 else if a1 - o1 < 0 then 2 else 3 from rfl)
  generalize qt (o1, o2) (a1, a2) = X at *
  unfold Nr at ho ha
  simp only at ho ha ⊢
  obtain ⟨x1, x2, x3, x4⟩ := ho
  obtain ⟨y1, y2, y3, y4⟩ := ha
  by_cases h1 : 0 < a1 - o1
  · by_cases h2 : 0 ≤ a2 - o2
    · have fin := hid (show X = 0 by rw [e.out, if_pos ⟨h1, h2⟩])
      go_enter Try.func42, Try.ntmps42
      go_wp2_with fail
      go_quiet (fail)
      go_wp2_with fail
      go_ret
      exact ⟨ret1 fin.out.symm, Bl.drewN (((Bl.refl w).alloc _).alloc _) _⟩
    · have fin := hid (show X = 3 by rw [e.out, if_neg (by omega), if_neg (by omega), if_neg (by omega)])
      go_enter Try.func42, Try.ntmps42
      go_wp2_with fail
      go_quiet (fail)
      go_wp2_with fail
      go_ret
      exact ⟨ret1 fin.out.symm, Bl.drewN (((Bl.refl w).alloc _).alloc _) _⟩
  · by_cases h2 : 0 < a2 - o2
    · have fin := hid (show X = 1 by rw [e.out, if_neg (by omega), if_pos (by omega)])
      go_enter Try.func42, Try.ntmps42
      go_wp2_with fail
      go_quiet (fail)
      go_wp2_with fail
      go_ret
      exact ⟨ret1 fin.out.symm, Bl.drewN (((Bl.refl w).alloc _).alloc _) _⟩
    · by_cases h3 : a1 - o1 < 0
      · have fin := hid (show X = 2 by rw [e.out, if_neg (by omega), if_neg (by omega), if_pos h3])
        go_enter Try.func42, Try.ntmps42
        go_wp2_with fail
        go_quiet (fail)
        go_wp2_with fail
        go_ret
        exact ⟨ret1 fin.out.symm, Bl.drewN (((Bl.refl w).alloc _).alloc _) _⟩
      · have fin := hid (show X = 3 by rw [e.out, if_neg (by omega), if_neg (by omega), if_neg (by omega)])
        go_enter Try.func42, Try.ntmps42
        go_wp2_with fail
        go_quiet (fail)
        go_wp2_with fail
        go_ret
        exact ⟨ret1 fin.out.symm, Bl.drewN (((Bl.refl w).alloc _).alloc _) _⟩

set_option maxHeartbeats 1000000 in
theorem RIn_any (x0 y0 x1 y1 p1 p2 : Int) (w : World) :
    Calls Try.prog 28 #[.agg #[.int .i64 x0, .int .i64 y0, .int .i64 x1, .int .i64 y1], .agg #[.int .i64 p1, .int .i64 p2]] w fun e w' => e = .returned (.bool (inn x0 y0 x1 y1 p1 p2)) ∧ Bl w w' := by
  have e := hid (show inn x0 y0 x1 y1 p1 p2 = decide (x0 ≤ p1 ∧ p1 ≤ x1 ∧ y0 ≤ p2 ∧ p2 ≤ y1) from rfl)
  generalize inn x0 y0 x1 y1 p1 p2 = X at *
  by_cases h1 : x0 ≤ p1
  · by_cases h2 : p1 ≤ x1
    · by_cases h3 : y0 ≤ p2
      · by_cases h4 : p2 ≤ y1
        · have fin := hid (show X = true by rw [e.out]; exact decide_eq_true (by omega))
          go_enter Try.func28, Try.ntmps28
          go_wp2_with fail
          go_ret
          exact ⟨retB fin.out.symm, ((Bl.refl w).alloc _).alloc _⟩
        · have fin := hid (show X = false by rw [e.out]; exact decide_eq_false (by omega))
          have d4 : decide (p2 ≤ y1) = false := decide_eq_false h4
          go_enter Try.func28, Try.ntmps28
          go_wp2_with fail
          go_ret
          exact ⟨retB fin.out.symm, ((Bl.refl w).alloc _).alloc _⟩
      · have fin := hid (show X = false by rw [e.out]; exact decide_eq_false (by omega))
        go_enter Try.func28, Try.ntmps28
        go_wp2_with fail
        go_ret
        exact ⟨retB fin.out.symm, ((Bl.refl w).alloc _).alloc _⟩
    · have fin := hid (show X = false by rw [e.out]; exact decide_eq_false (by omega))
      go_enter Try.func28, Try.ntmps28
      go_wp2_with fail
      go_ret
      exact ⟨retB fin.out.symm, ((Bl.refl w).alloc _).alloc _⟩
  · have fin := hid (show X = false by rw [e.out]; exact decide_eq_false (by omega))
    go_enter Try.func28, Try.ntmps28
    go_wp2_with fail
    go_ret
    exact ⟨retB fin.out.symm, ((Bl.refl w).alloc _).alloc _⟩
set_option maxHeartbeats 2000000 in
theorem ROverlap_any (x0 y0 x1 y1 u0 v0 u1 v1 : Int) (w : World) :
    Calls Try.prog 29 #[.agg #[.int .i64 x0, .int .i64 y0, .int .i64 x1, .int .i64 y1], .agg #[.int .i64 u0, .int .i64 v0, .int .i64 u1, .int .i64 v1]] w fun e w' => e = .returned (.bool (ovl x0 y0 x1 y1 u0 v0 u1 v1)) ∧ Bl w w' := by
  have e := hid (show ovl x0 y0 x1 y1 u0 v0 u1 v1 = decide (x0 < x1 ∧ u0 < u1 ∧ x0 < u1 ∧ u0 < x1 ∧ y0 < y1 ∧ v0 < v1 ∧ y0 < v1 ∧ v0 < y1) from rfl)
  generalize ovl x0 y0 x1 y1 u0 v0 u1 v1 = X at *
  by_cases h0 : x0 < x1
  rotate_left
  · have fin := hid (show X = false by rw [e.out]; exact decide_eq_false (by omega))
    have dd : decide (x0 < x1) = false := decide_eq_false h0
    go_enter Try.func29, Try.ntmps29
    go_wp2_with fail
    go_ret
    exact ⟨retB fin.out.symm, ((Bl.refl w).alloc _).alloc _⟩
  by_cases h1 : u0 < u1
  rotate_left
  · have fin := hid (show X = false by rw [e.out]; exact decide_eq_false (by omega))
    have dd : decide (u0 < u1) = false := decide_eq_false h1
    go_enter Try.func29, Try.ntmps29
    go_wp2_with fail
    go_ret
    exact ⟨retB fin.out.symm, ((Bl.refl w).alloc _).alloc _⟩
  by_cases h2 : x0 < u1
  rotate_left
  · have fin := hid (show X = false by rw [e.out]; exact decide_eq_false (by omega))
    have dd : decide (x0 < u1) = false := decide_eq_false h2
    go_enter Try.func29, Try.ntmps29
    go_wp2_with fail
    go_ret
    exact ⟨retB fin.out.symm, ((Bl.refl w).alloc _).alloc _⟩
  by_cases h3 : u0 < x1
  rotate_left
  · have fin := hid (show X = false by rw [e.out]; exact decide_eq_false (by omega))
    have dd : decide (u0 < x1) = false := decide_eq_false h3
    go_enter Try.func29, Try.ntmps29
    go_wp2_with fail
    go_ret
    exact ⟨retB fin.out.symm, ((Bl.refl w).alloc _).alloc _⟩
  by_cases h4 : y0 < y1
  rotate_left
  · have fin := hid (show X = false by rw [e.out]; exact decide_eq_false (by omega))
    have dd : decide (y0 < y1) = false := decide_eq_false h4
    go_enter Try.func29, Try.ntmps29
    go_wp2_with fail
    go_ret
    exact ⟨retB fin.out.symm, ((Bl.refl w).alloc _).alloc _⟩
  by_cases h5 : v0 < v1
  rotate_left
  · have fin := hid (show X = false by rw [e.out]; exact decide_eq_false (by omega))
    have dd : decide (v0 < v1) = false := decide_eq_false h5
    go_enter Try.func29, Try.ntmps29
    go_wp2_with fail
    go_ret
    exact ⟨retB fin.out.symm, ((Bl.refl w).alloc _).alloc _⟩
  by_cases h6 : y0 < v1
  rotate_left
  · have fin := hid (show X = false by rw [e.out]; exact decide_eq_false (by omega))
    have dd : decide (y0 < v1) = false := decide_eq_false h6
    go_enter Try.func29, Try.ntmps29
    go_wp2_with fail
    go_ret
    exact ⟨retB fin.out.symm, ((Bl.refl w).alloc _).alloc _⟩
  by_cases h7 : v0 < y1
  rotate_left
  · have fin := hid (show X = false by rw [e.out]; exact decide_eq_false (by omega))
    have dd : decide (v0 < y1) = false := decide_eq_false h7
    go_enter Try.func29, Try.ntmps29
    go_wp2_with fail
    go_ret
    exact ⟨retB fin.out.symm, ((Bl.refl w).alloc _).alloc _⟩
  have fin := hid (show X = true by rw [e.out]; exact decide_eq_true (by omega))
  have dd : decide (v0 < y1) = true := decide_eq_true h7
  go_enter Try.func29, Try.ntmps29
  go_wp2_with fail
  go_ret
  exact ⟨retB fin.out.symm, ((Bl.refl w).alloc _).alloc _⟩
end Go.Proofs.Ytjdkgndecnhokaa.Geom
