/- Contract of the reference of geom: Less. -/
import Derived.Test.YtjdkgndecnhokaaELess
namespace Go.Proofs.Ytjdkgndecnhokaa.Geom
open Go.RowKit
open Go.Proofs.Ytjdkgndecnhokaa.Wire
set_option linter.unusedVariables false

theorem eq_and {x1 x2 y1 y2 : Int} (h : ¬ (x1, x2) = (y1, y2)) : (x1 == y1 && x2 == y2) = false := by
  cases h1 : (x1 == y1) with
  | false => rfl
  | true =>
    cases h2 : (x2 == y2) with
    | false => rfl
    | true => exact absurd (by rw [eq_of_beq h1, eq_of_beq h2]) h
theorem eq_two {x1 x2 y1 y2 : Int} (h : ¬ (x1, x2) = (y1, y2)) : (x1 == y1) = false ∨ ((x1 == y1) = true ∧ (x2 == y2) = false) := by
  rcases eq_parts h with g | ⟨g1, g2⟩
  · exact .inl g
  · exact .inr ⟨by rw [g1]; exact beq_self_eq_true _, g2⟩
theorem les_far {o a b : P} (h : ¬ Nrs [o, a, b]) : les o a b = false := by unfold les; exact decide_eq_false fun g => h g.1
theorem les_a {o a b : P} (h : a = o) : les o a b = false := by unfold les; exact decide_eq_false fun g => g.2.1 h
theorem les_b {o a b : P} (h : b = o) : les o a b = false := by unfold les; exact decide_eq_false fun g => g.2.2.1 h
theorem les_go {o a b : P} (hn : Nrs [o, a, b]) (ha : a ≠ o) (hb : b ≠ o) : les o a b = decide (qt o a < qt o b ∨ qt o a = qt o b ∧ 0 < crs o a o b) := by
  unfold les
  by_cases h : qt o a < qt o b ∨ qt o a = qt o b ∧ 0 < crs o a o b
  · rw [decide_eq_true h, decide_eq_true]; exact ⟨hn, ha, hb, h⟩
  · rw [decide_eq_false h, decide_eq_false]; exact fun g => h g.2.2.2

set_option maxHeartbeats 4000000 in
theorem RLess_any (o a b : P) (w : World) :
    Calls Try.prog 21 #[.agg #[.int .i64 o.1, .int .i64 o.2], .agg #[.int .i64 a.1, .int .i64 a.2], .agg #[.int .i64 b.1, .int .i64 b.2]] w fun e w' => e = .returned (.bool (les o a b)) ∧ Bl w w' := by
  have n1 := fun w' T g hg => RNear3 o a b w' T g hg
  by_cases hn : Nrs [o, a, b]
  · rw [decide_eq_true hn] at n1
    have h3 := nrs3.1 hn
    by_cases ha : a = o
    · have fin := hid (les_a (b := b) ha)
      subst ha
      have N1 := hid n1
      clear n1 hn h3
      generalize les a a b = X at *
      obtain ⟨a1, a2⟩ := a
      obtain ⟨b1, b2⟩ := b
      simp only at N1
      go_enter Try.func21, Try.ntmps21
      go_wp2_with fail
      refine (N1.out _ _ _ (by simp)).mono ?_
      rintro e w1 ⟨rfl, rfl⟩
      go_wp2_with fail
      go_ret
      exact ⟨retB fin.out.symm, ((((Bl.refl w).alloc _).alloc _).alloc _).alloc _⟩
    by_cases hb : b = o
    · have fin := hid (les_b (a := a) hb)
      subst hb
      have N1 := hid n1
      clear n1 hn h3
      generalize les b a b = X at *
      obtain ⟨a1, a2⟩ := a
      obtain ⟨b1, b2⟩ := b
      simp only at N1
      have qa := eq_two ha
      clear ha
      rcases qa with qa | ⟨qa1, qa2⟩
      all_goals
        go_enter Try.func21, Try.ntmps21
        go_wp2_with fail
        refine (N1.out _ _ _ (by simp)).mono ?_
        rintro e w1 ⟨rfl, rfl⟩
        go_wp2_with fail
        go_ret
        exact ⟨retB fin.out.symm, ((((Bl.refl w).alloc _).alloc _).alloc _).alloc _⟩
    have e := hid (les_go hn ha hb)
    have N1 := hid n1
    have c1 := hid (fun w' => RQuarter_any o a w' h3.1 h3.2.1)
    have c2 := hid (fun w' => RQuarter_any o b w' h3.1 h3.2.2)
    have c3 := hid (fun w' => RCross_any o a o b w' h3.1 h3.2.1 h3.1 h3.2.2)
    clear n1 hn h3
    generalize les o a b = X at *
    generalize qt o a = Q1 at *
    generalize qt o b = Q2 at *
    generalize crs o a o b = Y at *
    obtain ⟨o1, o2⟩ := o
    obtain ⟨a1, a2⟩ := a
    obtain ⟨b1, b2⟩ := b
    simp only at N1 c1 c2 c3
    have qa := eq_two ha
    have qb := eq_two hb
    clear ha hb
    rcases qa with qa | ⟨qa1, qa2⟩ <;> rcases qb with qb | ⟨qb1, qb2⟩
    all_goals
      go_enter Try.func21, Try.ntmps21
      go_wp2_with fail
      refine (N1.out _ _ _ (by simp)).mono ?_
      rintro e w1 ⟨rfl, hw⟩
      have hB1 : Bl w w1 := by rw [← hw]; exact ((((Bl.refl w).alloc _).alloc _).alloc _).alloc _
      obtain ⟨x1, x2, x3⟩ := box3 (show Bl _ w1 by rw [← hw]; exact (Bl.refl _).alloc _)
      have hz : w.heap.size + 1 + 1 < w1.heap.size := x3.lt
      have k1 := x1.c0
      have k2 := x1.c1
      have k3 := x2.c0
      have k4 := x2.c1
      have k5 := x3.c0
      have k6 := x3.c1
      clear hw x1 x2 x3
      go_wp2_with fail
      go_region_held3 (fun w' => w'.cell? ⟨w.heap.size, 0, none⟩ = some (.int .i64 o1) ∧ w'.cell? ⟨w.heap.size, 1, none⟩ = some (.int .i64 o2) ∧ w'.cell? ⟨w.heap.size + 1, 0, none⟩ = some (.int .i64 a1) ∧ w'.cell? ⟨w.heap.size + 1, 1, none⟩ = some (.int .i64 a2) ∧ w'.cell? ⟨w.heap.size + 1 + 1, 0, none⟩ = some (.int .i64 b1) ∧ w'.cell? ⟨w.heap.size + 1 + 1, 1, none⟩ = some (.int .i64 b2))
        (first | go_keep | (go_split_ands; exact ⟨(hbx.cell (p := ⟨w.heap.size, 0, none⟩) (by first | omega | (simp; omega))).trans (by assumption), (hbx.cell (p := ⟨w.heap.size, 1, none⟩) (by first | omega | (simp; omega))).trans (by assumption), (hbx.cell (p := ⟨w.heap.size + 1, 0, none⟩) (by first | omega | (simp; omega))).trans (by assumption), (hbx.cell (p := ⟨w.heap.size + 1, 1, none⟩) (by first | omega | (simp; omega))).trans (by assumption), (hbx.cell (p := ⟨w.heap.size + 1 + 1, 0, none⟩) (by first | omega | (simp; omega))).trans (by assumption), (hbx.cell (p := ⟨w.heap.size + 1 + 1, 1, none⟩) (by first | omega | (simp; omega))).trans (by assumption)⟩))
        (first | (go_at_call 42; (with_reducible refine (c1.out _).mono ?_); rintro e wx ⟨rfl, hbx⟩; have hz : w.heap.size + 1 + 1 < wx.heap.size := (by have hz0 := hbx.size; first | omega | (simp at hz0; omega)); have hB : Bl w wx := Bl.trans (by first | assumption | exact Bl.drew hB1) hbx) | (go_at_call 42; (with_reducible refine (c2.out _).mono ?_); rintro e wx ⟨rfl, hbx⟩; have hz : w.heap.size + 1 + 1 < wx.heap.size := (by have hz0 := hbx.size; first | omega | (simp at hz0; omega)); have hB : Bl w wx := Bl.trans (by first | assumption | exact Bl.drew hB1) hbx))
      all_goals
        have hW : Bl w wx := by assumption
        go_split_ands
        by_cases h1 : Q1 < Q2
        · have fin := hid (show X = true by rw [e.out]; exact decide_eq_true (.inl h1))
          go_wp2_with fail
          go_ret
          exact ⟨retB fin.out.symm, hW⟩
        · by_cases h2 : Q1 = Q2
          · by_cases h4 : 0 < Y
            · have fin := hid (show X = true by rw [e.out]; exact decide_eq_true (.inr ⟨h2, h4⟩))
              have dd : decide (0 < Y) = true := decide_eq_true h4
              subst h2
              go_wp2_with fail
              refine (c3.out _).mono ?_
              rintro e w3 ⟨rfl, hb3⟩
              go_wp2_with fail
              go_ret
              exact ⟨retB fin.out.symm, hW.trans hb3⟩
            · have fin := hid (show X = false by rw [e.out]; exact decide_eq_false (fun h => by rcases h with h | h; exact h1 h; exact h4 h.2))
              have dd : decide (0 < Y) = false := decide_eq_false h4
              subst h2
              go_wp2_with fail
              refine (c3.out _).mono ?_
              rintro e w3 ⟨rfl, hb3⟩
              go_wp2_with fail
              go_ret
              exact ⟨retB fin.out.symm, hW.trans hb3⟩
          · have fin := hid (show X = false by rw [e.out]; exact decide_eq_false (fun h => by rcases h with h | h; exact h1 h; exact h2 h.1))
            have t2 : (Q1 == Q2) = false := beq_eq_false_iff_ne.2 h2
            go_wp2_with fail
            go_ret
            exact ⟨retB fin.out.symm, hW⟩
  · have fin := hid (les_far hn)
    rw [decide_eq_false hn] at n1
    have N1 := hid n1
    clear n1 hn
    generalize les o a b = X at *
    obtain ⟨o1, o2⟩ := o
    obtain ⟨a1, a2⟩ := a
    obtain ⟨b1, b2⟩ := b
    simp only at N1
    go_enter Try.func21, Try.ntmps21
    go_wp2_with fail
    refine (N1.out _ _ _ (by simp)).mono ?_
    rintro e w1 ⟨rfl, rfl⟩
    go_wp2_with fail
    go_ret
    exact ⟨retB fin.out.symm, ((((Bl.refl w).alloc _).alloc _).alloc _).alloc _⟩
end Go.Proofs.Ytjdkgndecnhokaa.Geom
