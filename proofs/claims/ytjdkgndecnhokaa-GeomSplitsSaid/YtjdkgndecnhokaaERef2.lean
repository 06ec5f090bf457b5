/- Contracts of the reference of geom: Side, On, first. Points in boxes of the call. -/
import Derived.Test.YtjdkgndecnhokaaERef
namespace Go.Proofs.Ytjdkgndecnhokaa.Geom
open Go.RowKit
open Go.Proofs.Ytjdkgndecnhokaa.Wire
set_option linter.unusedVariables false

/-- block g holds the point (x, y) -/
def BX (w : World) (g : Nat) (x y : Int) : Prop := w.heap[g]? = some (.cells #[.int .i64 x, .int .i64 y] 23 (0, 0))
theorem BX.c0 {w : World} {g : Nat} {x y : Int} (h : BX w g x y) : w.cell? ⟨g, 0, none⟩ = some (.int .i64 x) := by rw [cell_of_row _ _ _ _ _ _ h]; rfl
theorem BX.c1 {w : World} {g : Nat} {x y : Int} (h : BX w g x y) : w.cell? ⟨g, 1, none⟩ = some (.int .i64 y) := by rw [cell_of_row _ _ _ _ _ _ h]; rfl
theorem BX.lt {w : World} {g : Nat} {x y : Int} (h : BX w g x y) : g < w.heap.size := lt_of_block h
theorem BX.bl {w w' : World} {g : Nat} {x y : Int} (h : BX w g x y) (hb : Bl w w') : BX w' g x y := (hb.block g h.lt).trans h
theorem BX.al {w : World} {g : Nat} {x y : Int} (h : BX w g x y) (o : Obj) : BX (w.alloc o) g x y := h.bl ((Bl.refl w).alloc o)
theorem BX.new {w : World} {g : Nat} {x y : Int} (hg : g = w.heap.size) : BX (w.alloc (.cells #[.int .i64 x, .int .i64 y] 23)) g x y := by subst hg; exact heap_alloc_new w _
theorem BX.drewN {w : World} {g : Nat} {x y : Int} (h : BX w g x y) (n : Nat) : BX (w.drewN n) g x y := h
theorem BX.fr {w : World} {g : Nat} {x y : Int} (h : BX w g x y) (j : Nat) : w.frozen? ⟨g, j, none⟩ = false := by simp [World.frozen?, show w.heap[g]? = _ from h]
theorem box3 {w w' : World} {a1 a2 b1 b2 c1 c2 : Int} (hb : Bl (((w.alloc (.cells #[.int .i64 a1, .int .i64 a2] 23)).alloc (.cells #[.int .i64 b1, .int .i64 b2] 23)).alloc (.cells #[.int .i64 c1, .int .i64 c2] 23)) w') :
    BX w' w.heap.size a1 a2 ∧ BX w' (w.heap.size + 1) b1 b2 ∧ BX w' (w.heap.size + 1 + 1) c1 c2 :=
  ⟨(((BX.new rfl).al _).al _).bl hb, ((BX.new (by simp)).al _).bl hb, (BX.new (by simp)).bl hb⟩

set_option maxHeartbeats 1000000 in
theorem RSide_any (a b c : P) (w : World) :
    Calls Try.prog 14 #[.agg #[.int .i64 a.1, .int .i64 a.2], .agg #[.int .i64 b.1, .int .i64 b.2], .agg #[.int .i64 c.1, .int .i64 c.2]] w fun e w' => e = .returned (.int .i64 (sd a b c)) ∧ Bl w w' := by
  have c1 := hid (fun w' => RTwice_any a b c w')
  have e := hid (show sd a b c = sgn (tw a b c) from rfl)
  generalize sd a b c = X at *
  generalize tw a b c = Y at *
  obtain ⟨a1, a2⟩ := a
  obtain ⟨b1, b2⟩ := b
  obtain ⟨c1', c2'⟩ := c
  simp only at c1
  by_cases h1 : 0 < Y
  · have fin := hid (show X = 1 by rw [e.out]; unfold sgn; rw [if_pos h1])
    go_enter Try.func14, Try.ntmps14
    go_wp2_with fail
    refine (c1.out _).mono ?_
    rintro e w1 ⟨rfl, hb⟩
    go_wp2_with fail
    go_ret
    exact ⟨ret1 fin.out.symm, Bl.trans ((((Bl.refl w).alloc _).alloc _).alloc _) hb⟩
  · by_cases h2 : Y < 0
    · have fin := hid (show X = -1 by rw [e.out]; unfold sgn; rw [if_neg h1, if_pos h2])
      go_enter Try.func14, Try.ntmps14
      go_wp2_with fail
      refine (c1.out _).mono ?_
      rintro e w1 ⟨rfl, hb⟩
      go_wp2_with fail
      go_ret
      exact ⟨ret1 fin.out.symm, Bl.trans ((((Bl.refl w).alloc _).alloc _).alloc _) hb⟩
    · have fin := hid (show X = 0 by rw [e.out]; unfold sgn; rw [if_neg h1, if_neg h2])
      go_enter Try.func14, Try.ntmps14
      go_wp2_with fail
      refine (c1.out _).mono ?_
      rintro e w1 ⟨rfl, hb⟩
      go_wp2_with fail
      go_ret
      exact ⟨ret1 fin.out.symm, Bl.trans ((((Bl.refl w).alloc _).alloc _).alloc _) hb⟩

set_option maxHeartbeats 2000000 in
theorem ROn_any (a b p : P) (w : World) :
    Calls Try.prog 16 #[.agg #[.int .i64 a.1, .int .i64 a.2], .agg #[.int .i64 b.1, .int .i64 b.2], .agg #[.int .i64 p.1, .int .i64 p.2]] w fun e w' => e = .returned (.bool (on a b p)) ∧ Bl w w' := by
  have n1 := fun w' T g hg => RNear3 a b p w' T g hg
  by_cases hn : Nrs [a, b, p]
  · have h3 := nrs3.1 hn
    have c1 := hid (fun w' => RCross_any a b a p w' h3.1 h3.2.1 h3.1 h3.2.2)
    have c2 := hid (fun w' => RDot_any a p b p w' h3.1 h3.2.2 h3.2.1 h3.2.2)
    have e := hid (show on a b p = decide (crs a b a p = 0 ∧ dt a p b p ≤ 0) by unfold on; simp [hn])
    rw [decide_eq_true hn] at n1
    have N1 := hid n1
    clear n1 hn h3
    generalize on a b p = X at *
    generalize crs a b a p = Y at *
    generalize dt a p b p = Z at *
    obtain ⟨a1, a2⟩ := a
    obtain ⟨b1, b2⟩ := b
    obtain ⟨p1, p2⟩ := p
    simp only at N1 c1 c2
    by_cases h1 : Y = 0
    · have e1 := hid (show X = decide (Z ≤ 0) by rw [e.out]; simp [h1])
      clear e
      subst h1
      go_enter Try.func16, Try.ntmps16
      go_wp2_with fail
      refine (N1.out _ _ _ (by simp)).mono ?_
      rintro e w1 ⟨rfl, rfl⟩
      go_wp2_with fail
      refine (c1.out _).mono ?_
      rintro e w2 ⟨rfl, hb⟩
      obtain ⟨x1, x2, x3⟩ := box3 (Bl.trans ((Bl.refl _).alloc _) hb)
      have k1 := x1.c0
      have k2 := x1.c1
      have k3 := x2.c0
      have k4 := x2.c1
      have k5 := x3.c0
      have k6 := x3.c1
      have HB := hid hb
      clear hb
      by_cases h2 : Z ≤ 0
      · have fin := hid (show X = true by rw [e1.out, decide_eq_true h2])
        go_wp2_with fail
        refine (c2.out _).mono ?_
        rintro e w3 ⟨rfl, hb3⟩
        go_wp2_with fail
        go_ret
        exact ⟨retB fin.out.symm, Bl.trans (Bl.trans ((((Bl.refl w).alloc _).alloc _).alloc _ |>.alloc _) HB.out) hb3⟩
      · have fin := hid (show X = false by rw [e1.out, decide_eq_false h2])
        go_wp2_with fail
        refine (c2.out _).mono ?_
        rintro e w3 ⟨rfl, hb3⟩
        go_wp2_with fail
        go_ret
        exact ⟨retB e1.out.symm, Bl.trans (Bl.trans ((((Bl.refl w).alloc _).alloc _).alloc _ |>.alloc _) HB.out) hb3⟩
    · have t1 : (Y == 0) = false := by simpa using h1
      have fin := hid (show X = false by rw [e.out, decide_eq_false fun h => h1 h.1])
      go_enter Try.func16, Try.ntmps16
      go_wp2_with fail
      refine (N1.out _ _ _ (by simp)).mono ?_
      rintro e w1 ⟨rfl, rfl⟩
      go_wp2_with fail
      refine (c1.out _).mono ?_
      rintro e w2 ⟨rfl, hb⟩
      go_wp2_with fail
      go_ret
      exact ⟨retB fin.out.symm, Bl.trans ((((Bl.refl w).alloc _).alloc _).alloc _ |>.alloc _) hb⟩
  · have fin := hid (show on a b p = false by unfold on; rw [decide_eq_false fun h => hn h.1])
    rw [decide_eq_false hn] at n1
    have N1 := hid n1
    clear n1 hn
    generalize on a b p = X at *
    obtain ⟨a1, a2⟩ := a
    obtain ⟨b1, b2⟩ := b
    obtain ⟨p1, p2⟩ := p
    simp only at N1
    go_enter Try.func16, Try.ntmps16
    go_wp2_with fail
    refine (N1.out _ _ _ (by simp)).mono ?_
    rintro e w1 ⟨rfl, rfl⟩
    go_wp2_with fail
    go_ret
    exact ⟨retB fin.out.symm, ((((Bl.refl w).alloc _).alloc _).alloc _).alloc _⟩

set_option maxHeartbeats 1000000 in
theorem RFirst_any (a b : P) (w : World) (ha : Nr a) (hb : Nr b) :
    Calls Try.prog 48 #[.agg #[.int .i64 a.1, .int .i64 a.2], .agg #[.int .i64 b.1, .int .i64 b.2]] w fun e w' => e = .returned (.bool (decide (K a < K b))) ∧ Bl w w' := by
  have hK := K_lt ha hb
  simp only [hK]
  obtain ⟨a1, a2⟩ := a
  obtain ⟨b1, b2⟩ := b
  clear ha hb hK
  simp only
  have e := hid (Eq.refl (decide (a1 < b1 ∨ a1 = b1 ∧ a2 < b2)))
  generalize hX : decide (a1 < b1 ∨ a1 = b1 ∧ a2 < b2) = X at *
  have HX := hid hX
  clear hX e
  by_cases h1 : a1 < b1
  · have fin := hid (show X = true by rw [← HX.out]; exact decide_eq_true (.inl h1))
    go_enter Try.func48, Try.ntmps48
    go_wp2_with fail
    go_ret
    exact ⟨retB fin.out.symm, ((Bl.refl w).alloc _).alloc _⟩
  · by_cases h2 : a1 = b1
    · subst h2
      by_cases h3 : a2 < b2
      · have fin := hid (show X = true by rw [← HX.out]; exact decide_eq_true (.inr ⟨rfl, h3⟩))
        go_enter Try.func48, Try.ntmps48
        go_wp2_with fail
        go_ret
        exact ⟨retB fin.out.symm, ((Bl.refl w).alloc _).alloc _⟩
      · have fin := hid (show X = false by rw [← HX.out]; exact decide_eq_false (by omega))
        go_enter Try.func48, Try.ntmps48
        go_wp2_with fail
        go_ret
        exact ⟨retB fin.out.symm, ((Bl.refl w).alloc _).alloc _⟩
    · have fin := hid (show X = false by rw [← HX.out]; exact decide_eq_false (by omega))
      have t2 : (a1 == b1) = false := by simpa using h2
      go_enter Try.func48, Try.ntmps48
      go_wp2_with fail
      go_ret
      exact ⟨retB fin.out.symm, ((Bl.refl w).alloc _).alloc _⟩
end Go.Proofs.Ytjdkgndecnhokaa.Geom
