/- Contract of the reference of geom: shared. -/
import Derived.Test.YtjdkgndecnhokaaERef2
import Derived.Laws.StructEq
namespace Go.Proofs.Ytjdkgndecnhokaa.Geom
open Go.RowKit
open Go.Proofs.Ytjdkgndecnhokaa.Wire
set_option linter.unusedVariables false

theorem box4 {w w' : World} {a1 a2 b1 b2 c1 c2 d1 d2 : Int} (hb : Bl ((((w.alloc (.cells #[.int .i64 a1, .int .i64 a2] 23)).alloc (.cells #[.int .i64 b1, .int .i64 b2] 23)).alloc (.cells #[.int .i64 c1, .int .i64 c2] 23)).alloc (.cells #[.int .i64 d1, .int .i64 d2] 23)) w') :
    BX w' w.heap.size a1 a2 ∧ BX w' (w.heap.size + 1) b1 b2 ∧ BX w' (w.heap.size + 1 + 1) c1 c2 ∧ BX w' (w.heap.size + 1 + 1 + 1) d1 d2 :=
  ⟨((((BX.new rfl).al _).al _).al _).bl hb, (((BX.new (by simp)).al _).al _).bl hb, ((BX.new (by simp)).al _).bl hb, (BX.new (by simp)).bl hb⟩
theorem BX.set {w : World} {g : Nat} {x y : Int} (x' y' : Int) (h : BX w g x y) : BX ((w.setCell ⟨g, 0, none⟩ (.int .i64 x')).setCell ⟨g, 1, none⟩ (.int .i64 y')) g x' y' := by
  have h' : w.heap[g]? = some (.cells #[.int .i64 x, .int .i64 y] 23 (0, 0)) := h
  show ((w.setCell ⟨g, 0, none⟩ (.int .i64 x')).setCell ⟨g, 1, none⟩ (.int .i64 y')).heap[g]? = _
  rw [heap_setCell_same _ _ _ _ _ _ (heap_setCell_same _ _ _ _ _ _ h')]
  rfl
theorem BX.oth {w : World} {g h : Nat} {x y : Int} {u v : Value} (hn : g ≠ h) (k : BX w g x y) : BX ((w.setCell ⟨h, 0, none⟩ u).setCell ⟨h, 1, none⟩ v) g x y := by
  show ((w.setCell ⟨h, 0, none⟩ u).setCell ⟨h, 1, none⟩ v).heap[g]? = _
  rw [Below.heap_setCell _ _ _ _ hn, Below.heap_setCell _ _ _ _ hn]
  exact k
theorem shr2 {a b c d : Int} (h : over a b c d) : shr a b c d = 2 := by unfold shr; rw [if_pos h]
theorem shr1 {a b c d : Int} (h : ¬ over a b c d) (g : meets a b c d) : shr a b c d = 1 := by unfold shr; rw [if_neg h, if_pos g]
theorem shr0 {a b c d : Int} (h : ¬ over a b c d) (g : ¬ meets a b c d) : shr a b c d = 0 := by unfold shr; rw [if_neg h, if_neg g]
theorem eq_parts {x1 x2 y1 y2 : Int} (h : ¬ (x1, x2) = (y1, y2)) : (x1 == y1) = false ∨ (x1 = y1 ∧ (x2 == y2) = false) := by
  by_cases e : x1 = y1
  · right
    refine ⟨e, beq_eq_false_iff_ne.2 fun e2 => h (by rw [e, e2])⟩
  · exact .inl (beq_eq_false_iff_ne.2 e)
set_option maxHeartbeats 8000000 in
theorem RShared_any (a b c d : P) (w : World) (ha : Nr a) (hb : Nr b) (hc : Nr c) (hd : Nr d) :
    Calls Try.prog 39 #[.agg #[.int .i64 a.1, .int .i64 a.2], .agg #[.int .i64 b.1, .int .i64 b.2], .agg #[.int .i64 c.1, .int .i64 c.2], .agg #[.int .i64 d.1, .int .i64 d.2]] w fun e w' => e = .returned (.int .i64 (shr (K a) (K b) (K c) (K d))) ∧ Bl w w' := by
  obtain ⟨a1, a2⟩ := a
  obtain ⟨b1, b2⟩ := b
  obtain ⟨c1, c2⟩ := c
  obtain ⟨d1, d2⟩ := d
  simp only
  have hg0 : w.heap.size ≤ w.heap.size := Nat.le_refl _
  have hg1 : w.heap.size ≤ w.heap.size + 1 := by omega
  have hg2 : w.heap.size ≤ w.heap.size + 1 + 1 := by omega
  have hg3 : w.heap.size ≤ w.heap.size + 1 + 1 + 1 := by omega
  go_enter Try.func39, Try.ntmps39
  have cc := fun w' => RFirst_any (b1, b2) (a1, a2) w' hb ha
  simp only at cc
  by_cases hh1 : K (b1, b2) < K (a1, a2)
  · rw [decide_eq_true hh1] at cc
    have CC := hid cc
    have H1 := hid hh1
    clear cc hh1
    go_wp2_with fail
    refine (CC.out _).mono ?_
    rintro e w1 ⟨rfl, hb⟩
    clear CC
    obtain ⟨X0, X1, X2, X3⟩ := box4 hb
    have B : Bl w w1 := Bl.trans (((((Bl.refl w).alloc _).alloc _).alloc _).alloc _) hb
    clear hb
    have cc := fun w' => RFirst_any (d1, d2) (c1, c2) w' hd hc
    simp only at cc
    by_cases hh2 : K (d1, d2) < K (c1, c2)
    · rw [decide_eq_true hh2] at cc
      have CC := hid cc
      have H2 := hid hh2
      clear cc hh2
      have k00 := X0.c0
      have k01 := X0.c1
      have f0 := X0.fr
      have k10 := X1.c0
      have k11 := X1.c1
      have f1 := X1.fr
      have k20 := X2.c0
      have k21 := X2.c1
      have f2 := X2.fr
      have k30 := X3.c0
      have k31 := X3.c1
      have f3 := X3.fr
      go_wp2_with fail
      refine (CC.out _).mono ?_
      rintro e w2 ⟨rfl, hb⟩
      clear CC
      clear k00 k01 f0 k10 k11 f1 k20 k21 f2 k30 k31 f3
      have Y0 := BX.bl (BX.oth (by omega) (BX.set b1 b2 X0)) hb
      have Y1 := BX.bl (BX.set a1 a2 (BX.oth (by omega) X1)) hb
      have Y2 := BX.bl (BX.oth (by omega) (BX.oth (by omega) X2)) hb
      have Y3 := BX.bl (BX.oth (by omega) (BX.oth (by omega) X3)) hb
      have B2 := Bl.trans (Below.trans B (((((Below.refl _ _).setCell hg0 _).setCell hg0 _).setCell hg1 _).setCell hg1 _)) hb
      clear X0 X1 X2 X3 B hb
      have X0 := Y0
      have X1 := Y1
      have X2 := Y2
      have X3 := Y3
      have B := B2
      clear Y0 Y1 Y2 Y3 B2
      have cc := fun w' => RFirst_any (b1, b2) (d1, d2) w' hb hd
      simp only at cc
      by_cases hh3 : K (b1, b2) < K (d1, d2)
      · rw [decide_eq_true hh3] at cc
        have CC := hid cc
        have H3 := hid hh3
        clear cc hh3
        have k00 := X0.c0
        have k01 := X0.c1
        have f0 := X0.fr
        have k10 := X1.c0
        have k11 := X1.c1
        have f1 := X1.fr
        have k20 := X2.c0
        have k21 := X2.c1
        have f2 := X2.fr
        have k30 := X3.c0
        have k31 := X3.c1
        have f3 := X3.fr
        go_wp2_with fail
        refine (CC.out _).mono ?_
        rintro e w3 ⟨rfl, hb⟩
        clear CC
        clear k00 k01 f0 k10 k11 f1 k20 k21 f2 k30 k31 f3
        have Y0 := BX.bl (BX.oth (by omega) (BX.oth (by omega) X0)) hb
        have Y1 := BX.bl (BX.oth (by omega) (BX.oth (by omega) X1)) hb
        have Y2 := BX.bl (BX.oth (by omega) (BX.set d1 d2 X2)) hb
        have Y3 := BX.bl (BX.set c1 c2 (BX.oth (by omega) X3)) hb
        have B2 := Bl.trans (Below.trans B (((((Below.refl _ _).setCell hg2 _).setCell hg2 _).setCell hg3 _).setCell hg3 _)) hb
        clear X0 X1 X2 X3 B hb
        have X0 := Y0
        have X1 := Y1
        have X2 := Y2
        have X3 := Y3
        have B := B2
        clear Y0 Y1 Y2 Y3 B2
        have cc := fun w' => RFirst_any (c1, c2) (a1, a2) w' hc ha
        simp only at cc
        by_cases hh4 : K (c1, c2) < K (a1, a2)
        · rw [decide_eq_true hh4] at cc
          have CC := hid cc
          have H4 := hid hh4
          clear cc hh4
          have k00 := X0.c0
          have k01 := X0.c1
          have f0 := X0.fr
          have k10 := X1.c0
          have k11 := X1.c1
          have f1 := X1.fr
          have k20 := X2.c0
          have k21 := X2.c1
          have f2 := X2.fr
          have k30 := X3.c0
          have k31 := X3.c1
          have f3 := X3.fr
          go_wp2_with fail
          refine (CC.out _).mono ?_
          rintro e w4 ⟨rfl, hb⟩
          clear CC
          clear k00 k01 f0 k10 k11 f1 k20 k21 f2 k30 k31 f3
          have Y0 := BX.bl (BX.set d1 d2 X0) hb
          have Y1 := BX.bl (BX.oth (by omega) X1) hb
          have Y2 := BX.bl (BX.oth (by omega) X2) hb
          have Y3 := BX.bl (BX.oth (by omega) X3) hb
          have B2 := Bl.trans (Below.trans B (((Below.refl _ _).setCell hg0 _).setCell hg0 _)) hb
          clear X0 X1 X2 X3 B hb
          have X0 := Y0
          have X1 := Y1
          have X2 := Y2
          have X3 := Y3
          have B := B2
          clear Y0 Y1 Y2 Y3 B2
          by_cases he : (d1, d2) = (c1, c2)
          · have fin : shr (K (a1, a2)) (K (b1, b2)) (K (c1, c2)) (K (d1, d2)) = 1 := by
              have := H1.out; have := H2.out; have := H3.out; have := H4.out; have e0 := congrArg K he
              exact shr1 (by unfold over; omega) (by unfold meets; omega)
            have e1 : d1 = c1 := congrArg Prod.fst he
            have e2 : d2 = c2 := congrArg Prod.snd he
            clear he
            have FIN := hid fin
            clear fin
            have q1 : (d1 == c1) = true := by rw [e1]; exact beq_self_eq_true _
            have q2 : (d2 == c2) = true := by rw [e2]; exact beq_self_eq_true _
            clear e1 e2
            have k00 := X0.c0
            have k01 := X0.c1
            have f0 := X0.fr
            have k10 := X1.c0
            have k11 := X1.c1
            have f1 := X1.fr
            have k20 := X2.c0
            have k21 := X2.c1
            have f2 := X2.fr
            have k30 := X3.c0
            have k31 := X3.c1
            have f3 := X3.fr
            go_wp2_with fail
            go_ret
            exact ⟨ret1 FIN.out.symm, Below.trans B (((Below.refl _ _).setCell hg1 _).setCell hg1 _)⟩
          · have hne : K (d1, d2) ≠ K (c1, c2) := fun h => he ((K_eq hd hc).1 h)
            have hq : (d1 == c1) = false ∨ (d1 = c1 ∧ (d2 == c2) = false) := eq_parts he
            clear he
            have HNE := hid hne
            clear hne
            rcases hq with hq | ⟨hq0, hq⟩
            · have cc := fun w' => RFirst_any (d1, d2) (c1, c2) w' hd hc
              simp only at cc
              by_cases hh5 : K (d1, d2) < K (c1, c2)
              · rw [decide_eq_true hh5] at cc
                have CC := hid cc
                have H5 := hid hh5
                clear cc hh5
                have k00 := X0.c0
                have k01 := X0.c1
                have f0 := X0.fr
                have k10 := X1.c0
                have k11 := X1.c1
                have f1 := X1.fr
                have k20 := X2.c0
                have k21 := X2.c1
                have f2 := X2.fr
                have k30 := X3.c0
                have k31 := X3.c1
                have f3 := X3.fr
                go_wp2_with fail
                refine (CC.out _).mono ?_
                rintro e w5 ⟨rfl, hb⟩
                clear CC
                clear k00 k01 f0 k10 k11 f1 k20 k21 f2 k30 k31 f3
                have Y0 := BX.bl (BX.oth (by omega) X0) hb
                have Y1 := BX.bl (BX.set c1 c2 X1) hb
                have Y2 := BX.bl (BX.oth (by omega) X2) hb
                have Y3 := BX.bl (BX.oth (by omega) X3) hb
                have B2 := Bl.trans (Below.trans B (((Below.refl _ _).setCell hg1 _).setCell hg1 _)) hb
                clear X0 X1 X2 X3 B hb
                have X0 := Y0
                have X1 := Y1
                have X2 := Y2
                have X3 := Y3
                have B := B2
                clear Y0 Y1 Y2 Y3 B2
                have FIN := hid (show shr (K (a1, a2)) (K (b1, b2)) (K (c1, c2)) (K (d1, d2)) = 2 by
                  have := H1.out; have := H2.out; have := H3.out; have := H4.out; have := H5.out; have := HNE.out
                  exact shr2 (by unfold over; omega))
                go_wp2_with fail
                go_ret
                exact ⟨ret1 FIN.out.symm, B⟩
              · rw [decide_eq_false hh5] at cc
                have CC := hid cc
                have H5 := hid hh5
                clear cc hh5
                have k00 := X0.c0
                have k01 := X0.c1
                have f0 := X0.fr
                have k10 := X1.c0
                have k11 := X1.c1
                have f1 := X1.fr
                have k20 := X2.c0
                have k21 := X2.c1
                have f2 := X2.fr
                have k30 := X3.c0
                have k31 := X3.c1
                have f3 := X3.fr
                go_wp2_with fail
                refine (CC.out _).mono ?_
                rintro e w5 ⟨rfl, hb⟩
                clear CC
                clear k00 k01 f0 k10 k11 f1 k20 k21 f2 k30 k31 f3
                have Y0 := BX.bl (BX.oth (by omega) X0) hb
                have Y1 := BX.bl (BX.set c1 c2 X1) hb
                have Y2 := BX.bl (BX.oth (by omega) X2) hb
                have Y3 := BX.bl (BX.oth (by omega) X3) hb
                have B2 := Bl.trans (Below.trans B (((Below.refl _ _).setCell hg1 _).setCell hg1 _)) hb
                clear X0 X1 X2 X3 B hb
                have X0 := Y0
                have X1 := Y1
                have X2 := Y2
                have X3 := Y3
                have B := B2
                clear Y0 Y1 Y2 Y3 B2
                have FIN := hid (show shr (K (a1, a2)) (K (b1, b2)) (K (c1, c2)) (K (d1, d2)) = 0 by
                  have := H1.out; have := H2.out; have := H3.out; have := H4.out; have := H5.out; have := HNE.out
                  exact shr0 (by unfold over; omega) (by unfold meets; omega))
                go_wp2_with fail
                go_ret
                exact ⟨ret1 FIN.out.symm, B⟩
            · have hq1 : (d1 == c1) = true := by rw [hq0]; exact beq_self_eq_true _
              clear hq0
              have cc := fun w' => RFirst_any (d1, d2) (c1, c2) w' hd hc
              simp only at cc
              by_cases hh6 : K (d1, d2) < K (c1, c2)
              · rw [decide_eq_true hh6] at cc
                have CC := hid cc
                have H6 := hid hh6
                clear cc hh6
                have k00 := X0.c0
                have k01 := X0.c1
                have f0 := X0.fr
                have k10 := X1.c0
                have k11 := X1.c1
                have f1 := X1.fr
                have k20 := X2.c0
                have k21 := X2.c1
                have f2 := X2.fr
                have k30 := X3.c0
                have k31 := X3.c1
                have f3 := X3.fr
                go_wp2_with fail
                refine (CC.out _).mono ?_
                rintro e w5 ⟨rfl, hb⟩
                clear CC
                clear k00 k01 f0 k10 k11 f1 k20 k21 f2 k30 k31 f3
                have Y0 := BX.bl (BX.oth (by omega) X0) hb
                have Y1 := BX.bl (BX.set c1 c2 X1) hb
                have Y2 := BX.bl (BX.oth (by omega) X2) hb
                have Y3 := BX.bl (BX.oth (by omega) X3) hb
                have B2 := Bl.trans (Below.trans B (((Below.refl _ _).setCell hg1 _).setCell hg1 _)) hb
                clear X0 X1 X2 X3 B hb
                have X0 := Y0
                have X1 := Y1
                have X2 := Y2
                have X3 := Y3
                have B := B2
                clear Y0 Y1 Y2 Y3 B2
                have FIN := hid (show shr (K (a1, a2)) (K (b1, b2)) (K (c1, c2)) (K (d1, d2)) = 2 by
                  have := H1.out; have := H2.out; have := H3.out; have := H4.out; have := H6.out; have := HNE.out
                  exact shr2 (by unfold over; omega))
                go_wp2_with fail
                go_ret
                exact ⟨ret1 FIN.out.symm, B⟩
              · rw [decide_eq_false hh6] at cc
                have CC := hid cc
                have H6 := hid hh6
                clear cc hh6
                have k00 := X0.c0
                have k01 := X0.c1
                have f0 := X0.fr
                have k10 := X1.c0
                have k11 := X1.c1
                have f1 := X1.fr
                have k20 := X2.c0
                have k21 := X2.c1
                have f2 := X2.fr
                have k30 := X3.c0
                have k31 := X3.c1
                have f3 := X3.fr
                go_wp2_with fail
                refine (CC.out _).mono ?_
                rintro e w5 ⟨rfl, hb⟩
                clear CC
                clear k00 k01 f0 k10 k11 f1 k20 k21 f2 k30 k31 f3
                have Y0 := BX.bl (BX.oth (by omega) X0) hb
                have Y1 := BX.bl (BX.set c1 c2 X1) hb
                have Y2 := BX.bl (BX.oth (by omega) X2) hb
                have Y3 := BX.bl (BX.oth (by omega) X3) hb
                have B2 := Bl.trans (Below.trans B (((Below.refl _ _).setCell hg1 _).setCell hg1 _)) hb
                clear X0 X1 X2 X3 B hb
                have X0 := Y0
                have X1 := Y1
                have X2 := Y2
                have X3 := Y3
                have B := B2
                clear Y0 Y1 Y2 Y3 B2
                have FIN := hid (show shr (K (a1, a2)) (K (b1, b2)) (K (c1, c2)) (K (d1, d2)) = 0 by
                  have := H1.out; have := H2.out; have := H3.out; have := H4.out; have := H6.out; have := HNE.out
                  exact shr0 (by unfold over; omega) (by unfold meets; omega))
                go_wp2_with fail
                go_ret
                exact ⟨ret1 FIN.out.symm, B⟩
        · rw [decide_eq_false hh4] at cc
          have CC := hid cc
          have H4 := hid hh4
          clear cc hh4
          have k00 := X0.c0
          have k01 := X0.c1
          have f0 := X0.fr
          have k10 := X1.c0
          have k11 := X1.c1
          have f1 := X1.fr
          have k20 := X2.c0
          have k21 := X2.c1
          have f2 := X2.fr
          have k30 := X3.c0
          have k31 := X3.c1
          have f3 := X3.fr
          go_wp2_with fail
          refine (CC.out _).mono ?_
          rintro e w4 ⟨rfl, hb⟩
          clear CC
          clear k00 k01 f0 k10 k11 f1 k20 k21 f2 k30 k31 f3
          have Y0 := BX.bl (BX.set d1 d2 X0) hb
          have Y1 := BX.bl (BX.oth (by omega) X1) hb
          have Y2 := BX.bl (BX.oth (by omega) X2) hb
          have Y3 := BX.bl (BX.oth (by omega) X3) hb
          have B2 := Bl.trans (Below.trans B (((Below.refl _ _).setCell hg0 _).setCell hg0 _)) hb
          clear X0 X1 X2 X3 B hb
          have X0 := Y0
          have X1 := Y1
          have X2 := Y2
          have X3 := Y3
          have B := B2
          clear Y0 Y1 Y2 Y3 B2
          by_cases he : (d1, d2) = (a1, a2)
          · have fin : shr (K (a1, a2)) (K (b1, b2)) (K (c1, c2)) (K (d1, d2)) = 1 := by
              have := H1.out; have := H2.out; have := H3.out; have := H4.out; have e0 := congrArg K he
              exact shr1 (by unfold over; omega) (by unfold meets; omega)
            have e1 : d1 = a1 := congrArg Prod.fst he
            have e2 : d2 = a2 := congrArg Prod.snd he
            clear he
            have FIN := hid fin
            clear fin
            have q1 : (d1 == a1) = true := by rw [e1]; exact beq_self_eq_true _
            have q2 : (d2 == a2) = true := by rw [e2]; exact beq_self_eq_true _
            clear e1 e2
            have k00 := X0.c0
            have k01 := X0.c1
            have f0 := X0.fr
            have k10 := X1.c0
            have k11 := X1.c1
            have f1 := X1.fr
            have k20 := X2.c0
            have k21 := X2.c1
            have f2 := X2.fr
            have k30 := X3.c0
            have k31 := X3.c1
            have f3 := X3.fr
            go_wp2_with fail
            go_ret
            exact ⟨ret1 FIN.out.symm, B⟩
          · have hne : K (d1, d2) ≠ K (a1, a2) := fun h => he ((K_eq hd ha).1 h)
            have hq : (d1 == a1) = false ∨ (d1 = a1 ∧ (d2 == a2) = false) := eq_parts he
            clear he
            have HNE := hid hne
            clear hne
            rcases hq with hq | ⟨hq0, hq⟩
            · have cc := fun w' => RFirst_any (d1, d2) (a1, a2) w' hd ha
              simp only at cc
              by_cases hh7 : K (d1, d2) < K (a1, a2)
              · rw [decide_eq_true hh7] at cc
                have CC := hid cc
                have H7 := hid hh7
                clear cc hh7
                have k00 := X0.c0
                have k01 := X0.c1
                have f0 := X0.fr
                have k10 := X1.c0
                have k11 := X1.c1
                have f1 := X1.fr
                have k20 := X2.c0
                have k21 := X2.c1
                have f2 := X2.fr
                have k30 := X3.c0
                have k31 := X3.c1
                have f3 := X3.fr
                go_wp2_with fail
                refine (CC.out _).mono ?_
                rintro e w5 ⟨rfl, hb⟩
                clear CC
                clear k00 k01 f0 k10 k11 f1 k20 k21 f2 k30 k31 f3
                have Y0 := BX.bl X0 hb
                have Y1 := BX.bl X1 hb
                have Y2 := BX.bl X2 hb
                have Y3 := BX.bl X3 hb
                have B2 := Bl.trans (Below.trans B (Below.refl _ _)) hb
                clear X0 X1 X2 X3 B hb
                have X0 := Y0
                have X1 := Y1
                have X2 := Y2
                have X3 := Y3
                have B := B2
                clear Y0 Y1 Y2 Y3 B2
                have FIN := hid (show shr (K (a1, a2)) (K (b1, b2)) (K (c1, c2)) (K (d1, d2)) = 2 by
                  have := H1.out; have := H2.out; have := H3.out; have := H4.out; have := H7.out; have := HNE.out
                  exact shr2 (by unfold over; omega))
                go_wp2_with fail
                go_ret
                exact ⟨ret1 FIN.out.symm, B⟩
              · rw [decide_eq_false hh7] at cc
                have CC := hid cc
                have H7 := hid hh7
                clear cc hh7
                have k00 := X0.c0
                have k01 := X0.c1
                have f0 := X0.fr
                have k10 := X1.c0
                have k11 := X1.c1
                have f1 := X1.fr
                have k20 := X2.c0
                have k21 := X2.c1
                have f2 := X2.fr
                have k30 := X3.c0
                have k31 := X3.c1
                have f3 := X3.fr
                go_wp2_with fail
                refine (CC.out _).mono ?_
                rintro e w5 ⟨rfl, hb⟩
                clear CC
                clear k00 k01 f0 k10 k11 f1 k20 k21 f2 k30 k31 f3
                have Y0 := BX.bl X0 hb
                have Y1 := BX.bl X1 hb
                have Y2 := BX.bl X2 hb
                have Y3 := BX.bl X3 hb
                have B2 := Bl.trans (Below.trans B (Below.refl _ _)) hb
                clear X0 X1 X2 X3 B hb
                have X0 := Y0
                have X1 := Y1
                have X2 := Y2
                have X3 := Y3
                have B := B2
                clear Y0 Y1 Y2 Y3 B2
                have FIN := hid (show shr (K (a1, a2)) (K (b1, b2)) (K (c1, c2)) (K (d1, d2)) = 0 by
                  have := H1.out; have := H2.out; have := H3.out; have := H4.out; have := H7.out; have := HNE.out
                  exact shr0 (by unfold over; omega) (by unfold meets; omega))
                go_wp2_with fail
                go_ret
                exact ⟨ret1 FIN.out.symm, B⟩
            · have hq1 : (d1 == a1) = true := by rw [hq0]; exact beq_self_eq_true _
              clear hq0
              have cc := fun w' => RFirst_any (d1, d2) (a1, a2) w' hd ha
              simp only at cc
              by_cases hh8 : K (d1, d2) < K (a1, a2)
              · rw [decide_eq_true hh8] at cc
                have CC := hid cc
                have H8 := hid hh8
                clear cc hh8
                have k00 := X0.c0
                have k01 := X0.c1
                have f0 := X0.fr
                have k10 := X1.c0
                have k11 := X1.c1
                have f1 := X1.fr
                have k20 := X2.c0
                have k21 := X2.c1
                have f2 := X2.fr
                have k30 := X3.c0
                have k31 := X3.c1
                have f3 := X3.fr
                go_wp2_with fail
                refine (CC.out _).mono ?_
                rintro e w5 ⟨rfl, hb⟩
                clear CC
                clear k00 k01 f0 k10 k11 f1 k20 k21 f2 k30 k31 f3
                have Y0 := BX.bl X0 hb
                have Y1 := BX.bl X1 hb
                have Y2 := BX.bl X2 hb
                have Y3 := BX.bl X3 hb
                have B2 := Bl.trans (Below.trans B (Below.refl _ _)) hb
                clear X0 X1 X2 X3 B hb
                have X0 := Y0
                have X1 := Y1
                have X2 := Y2
                have X3 := Y3
                have B := B2
                clear Y0 Y1 Y2 Y3 B2
                have FIN := hid (show shr (K (a1, a2)) (K (b1, b2)) (K (c1, c2)) (K (d1, d2)) = 2 by
                  have := H1.out; have := H2.out; have := H3.out; have := H4.out; have := H8.out; have := HNE.out
                  exact shr2 (by unfold over; omega))
                go_wp2_with fail
                go_ret
                exact ⟨ret1 FIN.out.symm, B⟩
              · rw [decide_eq_false hh8] at cc
                have CC := hid cc
                have H8 := hid hh8
                clear cc hh8
                have k00 := X0.c0
                have k01 := X0.c1
                have f0 := X0.fr
                have k10 := X1.c0
                have k11 := X1.c1
                have f1 := X1.fr
                have k20 := X2.c0
                have k21 := X2.c1
                have f2 := X2.fr
                have k30 := X3.c0
                have k31 := X3.c1
                have f3 := X3.fr
                go_wp2_with fail
                refine (CC.out _).mono ?_
                rintro e w5 ⟨rfl, hb⟩
                clear CC
                clear k00 k01 f0 k10 k11 f1 k20 k21 f2 k30 k31 f3
                have Y0 := BX.bl X0 hb
                have Y1 := BX.bl X1 hb
                have Y2 := BX.bl X2 hb
                have Y3 := BX.bl X3 hb
                have B2 := Bl.trans (Below.trans B (Below.refl _ _)) hb
                clear X0 X1 X2 X3 B hb
                have X0 := Y0
                have X1 := Y1
                have X2 := Y2
                have X3 := Y3
                have B := B2
                clear Y0 Y1 Y2 Y3 B2
                have FIN := hid (show shr (K (a1, a2)) (K (b1, b2)) (K (c1, c2)) (K (d1, d2)) = 0 by
                  have := H1.out; have := H2.out; have := H3.out; have := H4.out; have := H8.out; have := HNE.out
                  exact shr0 (by unfold over; omega) (by unfold meets; omega))
                go_wp2_with fail
                go_ret
                exact ⟨ret1 FIN.out.symm, B⟩
      · rw [decide_eq_false hh3] at cc
        have CC := hid cc
        have H3 := hid hh3
        clear cc hh3
        have k00 := X0.c0
        have k01 := X0.c1
        have f0 := X0.fr
        have k10 := X1.c0
        have k11 := X1.c1
        have f1 := X1.fr
        have k20 := X2.c0
        have k21 := X2.c1
        have f2 := X2.fr
        have k30 := X3.c0
        have k31 := X3.c1
        have f3 := X3.fr
        go_wp2_with fail
        refine (CC.out _).mono ?_
        rintro e w3 ⟨rfl, hb⟩
        clear CC
        clear k00 k01 f0 k10 k11 f1 k20 k21 f2 k30 k31 f3
        have Y0 := BX.bl (BX.oth (by omega) (BX.oth (by omega) X0)) hb
        have Y1 := BX.bl (BX.oth (by omega) (BX.oth (by omega) X1)) hb
        have Y2 := BX.bl (BX.oth (by omega) (BX.set d1 d2 X2)) hb
        have Y3 := BX.bl (BX.set c1 c2 (BX.oth (by omega) X3)) hb
        have B2 := Bl.trans (Below.trans B (((((Below.refl _ _).setCell hg2 _).setCell hg2 _).setCell hg3 _).setCell hg3 _)) hb
        clear X0 X1 X2 X3 B hb
        have X0 := Y0
        have X1 := Y1
        have X2 := Y2
        have X3 := Y3
        have B := B2
        clear Y0 Y1 Y2 Y3 B2
        have cc := fun w' => RFirst_any (c1, c2) (a1, a2) w' hc ha
        simp only at cc
        by_cases hh9 : K (c1, c2) < K (a1, a2)
        · rw [decide_eq_true hh9] at cc
          have CC := hid cc
          have H9 := hid hh9
          clear cc hh9
          have k00 := X0.c0
          have k01 := X0.c1
          have f0 := X0.fr
          have k10 := X1.c0
          have k11 := X1.c1
          have f1 := X1.fr
          have k20 := X2.c0
          have k21 := X2.c1
          have f2 := X2.fr
          have k30 := X3.c0
          have k31 := X3.c1
          have f3 := X3.fr
          go_wp2_with fail
          refine (CC.out _).mono ?_
          rintro e w4 ⟨rfl, hb⟩
          clear CC
          clear k00 k01 f0 k10 k11 f1 k20 k21 f2 k30 k31 f3
          have Y0 := BX.bl X0 hb
          have Y1 := BX.bl X1 hb
          have Y2 := BX.bl X2 hb
          have Y3 := BX.bl X3 hb
          have B2 := Bl.trans (Below.trans B (Below.refl _ _)) hb
          clear X0 X1 X2 X3 B hb
          have X0 := Y0
          have X1 := Y1
          have X2 := Y2
          have X3 := Y3
          have B := B2
          clear Y0 Y1 Y2 Y3 B2
          by_cases he : (b1, b2) = (c1, c2)
          · have fin : shr (K (a1, a2)) (K (b1, b2)) (K (c1, c2)) (K (d1, d2)) = 1 := by
              have := H1.out; have := H2.out; have := H3.out; have := H9.out; have e0 := congrArg K he
              exact shr1 (by unfold over; omega) (by unfold meets; omega)
            have e1 : b1 = c1 := congrArg Prod.fst he
            have e2 : b2 = c2 := congrArg Prod.snd he
            clear he
            have FIN := hid fin
            clear fin
            have q1 : (b1 == c1) = true := by rw [e1]; exact beq_self_eq_true _
            have q2 : (b2 == c2) = true := by rw [e2]; exact beq_self_eq_true _
            clear e1 e2
            have k00 := X0.c0
            have k01 := X0.c1
            have f0 := X0.fr
            have k10 := X1.c0
            have k11 := X1.c1
            have f1 := X1.fr
            have k20 := X2.c0
            have k21 := X2.c1
            have f2 := X2.fr
            have k30 := X3.c0
            have k31 := X3.c1
            have f3 := X3.fr
            go_wp2_with fail
            go_ret
            exact ⟨ret1 FIN.out.symm, Below.trans B (((Below.refl _ _).setCell hg1 _).setCell hg1 _)⟩
          · have hne : K (b1, b2) ≠ K (c1, c2) := fun h => he ((K_eq hb hc).1 h)
            have hq : (b1 == c1) = false ∨ (b1 = c1 ∧ (b2 == c2) = false) := eq_parts he
            clear he
            have HNE := hid hne
            clear hne
            rcases hq with hq | ⟨hq0, hq⟩
            · have cc := fun w' => RFirst_any (b1, b2) (c1, c2) w' hb hc
              simp only at cc
              by_cases hh10 : K (b1, b2) < K (c1, c2)
              · rw [decide_eq_true hh10] at cc
                have CC := hid cc
                have H10 := hid hh10
                clear cc hh10
                have k00 := X0.c0
                have k01 := X0.c1
                have f0 := X0.fr
                have k10 := X1.c0
                have k11 := X1.c1
                have f1 := X1.fr
                have k20 := X2.c0
                have k21 := X2.c1
                have f2 := X2.fr
                have k30 := X3.c0
                have k31 := X3.c1
                have f3 := X3.fr
                go_wp2_with fail
                refine (CC.out _).mono ?_
                rintro e w5 ⟨rfl, hb⟩
                clear CC
                clear k00 k01 f0 k10 k11 f1 k20 k21 f2 k30 k31 f3
                have Y0 := BX.bl (BX.oth (by omega) X0) hb
                have Y1 := BX.bl (BX.set c1 c2 X1) hb
                have Y2 := BX.bl (BX.oth (by omega) X2) hb
                have Y3 := BX.bl (BX.oth (by omega) X3) hb
                have B2 := Bl.trans (Below.trans B (((Below.refl _ _).setCell hg1 _).setCell hg1 _)) hb
                clear X0 X1 X2 X3 B hb
                have X0 := Y0
                have X1 := Y1
                have X2 := Y2
                have X3 := Y3
                have B := B2
                clear Y0 Y1 Y2 Y3 B2
                have FIN := hid (show shr (K (a1, a2)) (K (b1, b2)) (K (c1, c2)) (K (d1, d2)) = 2 by
                  have := H1.out; have := H2.out; have := H3.out; have := H9.out; have := H10.out; have := HNE.out
                  exact shr2 (by unfold over; omega))
                go_wp2_with fail
                go_ret
                exact ⟨ret1 FIN.out.symm, B⟩
              · rw [decide_eq_false hh10] at cc
                have CC := hid cc
                have H10 := hid hh10
                clear cc hh10
                have k00 := X0.c0
                have k01 := X0.c1
                have f0 := X0.fr
                have k10 := X1.c0
                have k11 := X1.c1
                have f1 := X1.fr
                have k20 := X2.c0
                have k21 := X2.c1
                have f2 := X2.fr
                have k30 := X3.c0
                have k31 := X3.c1
                have f3 := X3.fr
                go_wp2_with fail
                refine (CC.out _).mono ?_
                rintro e w5 ⟨rfl, hb⟩
                clear CC
                clear k00 k01 f0 k10 k11 f1 k20 k21 f2 k30 k31 f3
                have Y0 := BX.bl (BX.oth (by omega) X0) hb
                have Y1 := BX.bl (BX.set c1 c2 X1) hb
                have Y2 := BX.bl (BX.oth (by omega) X2) hb
                have Y3 := BX.bl (BX.oth (by omega) X3) hb
                have B2 := Bl.trans (Below.trans B (((Below.refl _ _).setCell hg1 _).setCell hg1 _)) hb
                clear X0 X1 X2 X3 B hb
                have X0 := Y0
                have X1 := Y1
                have X2 := Y2
                have X3 := Y3
                have B := B2
                clear Y0 Y1 Y2 Y3 B2
                have FIN := hid (show shr (K (a1, a2)) (K (b1, b2)) (K (c1, c2)) (K (d1, d2)) = 0 by
                  have := H1.out; have := H2.out; have := H3.out; have := H9.out; have := H10.out; have := HNE.out
                  exact shr0 (by unfold over; omega) (by unfold meets; omega))
                go_wp2_with fail
                go_ret
                exact ⟨ret1 FIN.out.symm, B⟩
            · have hq1 : (b1 == c1) = true := by rw [hq0]; exact beq_self_eq_true _
              clear hq0
              have cc := fun w' => RFirst_any (b1, b2) (c1, c2) w' hb hc
              simp only at cc
              by_cases hh11 : K (b1, b2) < K (c1, c2)
              · rw [decide_eq_true hh11] at cc
                have CC := hid cc
                have H11 := hid hh11
                clear cc hh11
                have k00 := X0.c0
                have k01 := X0.c1
                have f0 := X0.fr
                have k10 := X1.c0
                have k11 := X1.c1
                have f1 := X1.fr
                have k20 := X2.c0
                have k21 := X2.c1
                have f2 := X2.fr
                have k30 := X3.c0
                have k31 := X3.c1
                have f3 := X3.fr
                go_wp2_with fail
                refine (CC.out _).mono ?_
                rintro e w5 ⟨rfl, hb⟩
                clear CC
                clear k00 k01 f0 k10 k11 f1 k20 k21 f2 k30 k31 f3
                have Y0 := BX.bl (BX.oth (by omega) X0) hb
                have Y1 := BX.bl (BX.set c1 c2 X1) hb
                have Y2 := BX.bl (BX.oth (by omega) X2) hb
                have Y3 := BX.bl (BX.oth (by omega) X3) hb
                have B2 := Bl.trans (Below.trans B (((Below.refl _ _).setCell hg1 _).setCell hg1 _)) hb
                clear X0 X1 X2 X3 B hb
                have X0 := Y0
                have X1 := Y1
                have X2 := Y2
                have X3 := Y3
                have B := B2
                clear Y0 Y1 Y2 Y3 B2
                have FIN := hid (show shr (K (a1, a2)) (K (b1, b2)) (K (c1, c2)) (K (d1, d2)) = 2 by
                  have := H1.out; have := H2.out; have := H3.out; have := H9.out; have := H11.out; have := HNE.out
                  exact shr2 (by unfold over; omega))
                go_wp2_with fail
                go_ret
                exact ⟨ret1 FIN.out.symm, B⟩
              · rw [decide_eq_false hh11] at cc
                have CC := hid cc
                have H11 := hid hh11
                clear cc hh11
                have k00 := X0.c0
                have k01 := X0.c1
                have f0 := X0.fr
                have k10 := X1.c0
                have k11 := X1.c1
                have f1 := X1.fr
                have k20 := X2.c0
                have k21 := X2.c1
                have f2 := X2.fr
                have k30 := X3.c0
                have k31 := X3.c1
                have f3 := X3.fr
                go_wp2_with fail
                refine (CC.out _).mono ?_
                rintro e w5 ⟨rfl, hb⟩
                clear CC
                clear k00 k01 f0 k10 k11 f1 k20 k21 f2 k30 k31 f3
                have Y0 := BX.bl (BX.oth (by omega) X0) hb
                have Y1 := BX.bl (BX.set c1 c2 X1) hb
                have Y2 := BX.bl (BX.oth (by omega) X2) hb
                have Y3 := BX.bl (BX.oth (by omega) X3) hb
                have B2 := Bl.trans (Below.trans B (((Below.refl _ _).setCell hg1 _).setCell hg1 _)) hb
                clear X0 X1 X2 X3 B hb
                have X0 := Y0
                have X1 := Y1
                have X2 := Y2
                have X3 := Y3
                have B := B2
                clear Y0 Y1 Y2 Y3 B2
                have FIN := hid (show shr (K (a1, a2)) (K (b1, b2)) (K (c1, c2)) (K (d1, d2)) = 0 by
                  have := H1.out; have := H2.out; have := H3.out; have := H9.out; have := H11.out; have := HNE.out
                  exact shr0 (by unfold over; omega) (by unfold meets; omega))
                go_wp2_with fail
                go_ret
                exact ⟨ret1 FIN.out.symm, B⟩
        · rw [decide_eq_false hh9] at cc
          have CC := hid cc
          have H9 := hid hh9
          clear cc hh9
          have k00 := X0.c0
          have k01 := X0.c1
          have f0 := X0.fr
          have k10 := X1.c0
          have k11 := X1.c1
          have f1 := X1.fr
          have k20 := X2.c0
          have k21 := X2.c1
          have f2 := X2.fr
          have k30 := X3.c0
          have k31 := X3.c1
          have f3 := X3.fr
          go_wp2_with fail
          refine (CC.out _).mono ?_
          rintro e w4 ⟨rfl, hb⟩
          clear CC
          clear k00 k01 f0 k10 k11 f1 k20 k21 f2 k30 k31 f3
          have Y0 := BX.bl X0 hb
          have Y1 := BX.bl X1 hb
          have Y2 := BX.bl X2 hb
          have Y3 := BX.bl X3 hb
          have B2 := Bl.trans (Below.trans B (Below.refl _ _)) hb
          clear X0 X1 X2 X3 B hb
          have X0 := Y0
          have X1 := Y1
          have X2 := Y2
          have X3 := Y3
          have B := B2
          clear Y0 Y1 Y2 Y3 B2
          by_cases he : (b1, b2) = (a1, a2)
          · have fin : shr (K (a1, a2)) (K (b1, b2)) (K (c1, c2)) (K (d1, d2)) = 1 := by
              have := H1.out; have := H2.out; have := H3.out; have := H9.out; have e0 := congrArg K he
              exact shr1 (by unfold over; omega) (by unfold meets; omega)
            have e1 : b1 = a1 := congrArg Prod.fst he
            have e2 : b2 = a2 := congrArg Prod.snd he
            clear he
            have FIN := hid fin
            clear fin
            have q1 : (b1 == a1) = true := by rw [e1]; exact beq_self_eq_true _
            have q2 : (b2 == a2) = true := by rw [e2]; exact beq_self_eq_true _
            clear e1 e2
            have k00 := X0.c0
            have k01 := X0.c1
            have f0 := X0.fr
            have k10 := X1.c0
            have k11 := X1.c1
            have f1 := X1.fr
            have k20 := X2.c0
            have k21 := X2.c1
            have f2 := X2.fr
            have k30 := X3.c0
            have k31 := X3.c1
            have f3 := X3.fr
            go_wp2_with fail
            go_ret
            exact ⟨ret1 FIN.out.symm, B⟩
          · have hne : K (b1, b2) ≠ K (a1, a2) := fun h => he ((K_eq hb ha).1 h)
            have hq : (b1 == a1) = false ∨ (b1 = a1 ∧ (b2 == a2) = false) := eq_parts he
            clear he
            have HNE := hid hne
            clear hne
            rcases hq with hq | ⟨hq0, hq⟩
            · have cc := fun w' => RFirst_any (b1, b2) (a1, a2) w' hb ha
              simp only at cc
              by_cases hh12 : K (b1, b2) < K (a1, a2)
              · rw [decide_eq_true hh12] at cc
                have CC := hid cc
                have H12 := hid hh12
                clear cc hh12
                have k00 := X0.c0
                have k01 := X0.c1
                have f0 := X0.fr
                have k10 := X1.c0
                have k11 := X1.c1
                have f1 := X1.fr
                have k20 := X2.c0
                have k21 := X2.c1
                have f2 := X2.fr
                have k30 := X3.c0
                have k31 := X3.c1
                have f3 := X3.fr
                go_wp2_with fail
                refine (CC.out _).mono ?_
                rintro e w5 ⟨rfl, hb⟩
                clear CC
                clear k00 k01 f0 k10 k11 f1 k20 k21 f2 k30 k31 f3
                have Y0 := BX.bl X0 hb
                have Y1 := BX.bl X1 hb
                have Y2 := BX.bl X2 hb
                have Y3 := BX.bl X3 hb
                have B2 := Bl.trans (Below.trans B (Below.refl _ _)) hb
                clear X0 X1 X2 X3 B hb
                have X0 := Y0
                have X1 := Y1
                have X2 := Y2
                have X3 := Y3
                have B := B2
                clear Y0 Y1 Y2 Y3 B2
                have FIN := hid (show shr (K (a1, a2)) (K (b1, b2)) (K (c1, c2)) (K (d1, d2)) = 2 by
                  have := H1.out; have := H2.out; have := H3.out; have := H9.out; have := H12.out; have := HNE.out
                  exact shr2 (by unfold over; omega))
                go_wp2_with fail
                go_ret
                exact ⟨ret1 FIN.out.symm, B⟩
              · rw [decide_eq_false hh12] at cc
                have CC := hid cc
                have H12 := hid hh12
                clear cc hh12
                have k00 := X0.c0
                have k01 := X0.c1
                have f0 := X0.fr
                have k10 := X1.c0
                have k11 := X1.c1
                have f1 := X1.fr
                have k20 := X2.c0
                have k21 := X2.c1
                have f2 := X2.fr
                have k30 := X3.c0
                have k31 := X3.c1
                have f3 := X3.fr
                go_wp2_with fail
                refine (CC.out _).mono ?_
                rintro e w5 ⟨rfl, hb⟩
                clear CC
                clear k00 k01 f0 k10 k11 f1 k20 k21 f2 k30 k31 f3
                have Y0 := BX.bl X0 hb
                have Y1 := BX.bl X1 hb
                have Y2 := BX.bl X2 hb
                have Y3 := BX.bl X3 hb
                have B2 := Bl.trans (Below.trans B (Below.refl _ _)) hb
                clear X0 X1 X2 X3 B hb
                have X0 := Y0
                have X1 := Y1
                have X2 := Y2
                have X3 := Y3
                have B := B2
                clear Y0 Y1 Y2 Y3 B2
                have FIN := hid (show shr (K (a1, a2)) (K (b1, b2)) (K (c1, c2)) (K (d1, d2)) = 0 by
                  have := H1.out; have := H2.out; have := H3.out; have := H9.out; have := H12.out; have := HNE.out
                  exact shr0 (by unfold over; omega) (by unfold meets; omega))
                go_wp2_with fail
                go_ret
                exact ⟨ret1 FIN.out.symm, B⟩
            · have hq1 : (b1 == a1) = true := by rw [hq0]; exact beq_self_eq_true _
              clear hq0
              have cc := fun w' => RFirst_any (b1, b2) (a1, a2) w' hb ha
              simp only at cc
              by_cases hh13 : K (b1, b2) < K (a1, a2)
              · rw [decide_eq_true hh13] at cc
                have CC := hid cc
                have H13 := hid hh13
                clear cc hh13
                have k00 := X0.c0
                have k01 := X0.c1
                have f0 := X0.fr
                have k10 := X1.c0
                have k11 := X1.c1
                have f1 := X1.fr
                have k20 := X2.c0
                have k21 := X2.c1
                have f2 := X2.fr
                have k30 := X3.c0
                have k31 := X3.c1
                have f3 := X3.fr
                go_wp2_with fail
                refine (CC.out _).mono ?_
                rintro e w5 ⟨rfl, hb⟩
                clear CC
                clear k00 k01 f0 k10 k11 f1 k20 k21 f2 k30 k31 f3
                have Y0 := BX.bl X0 hb
                have Y1 := BX.bl X1 hb
                have Y2 := BX.bl X2 hb
                have Y3 := BX.bl X3 hb
                have B2 := Bl.trans (Below.trans B (Below.refl _ _)) hb
                clear X0 X1 X2 X3 B hb
                have X0 := Y0
                have X1 := Y1
                have X2 := Y2
                have X3 := Y3
                have B := B2
                clear Y0 Y1 Y2 Y3 B2
                have FIN := hid (show shr (K (a1, a2)) (K (b1, b2)) (K (c1, c2)) (K (d1, d2)) = 2 by
                  have := H1.out; have := H2.out; have := H3.out; have := H9.out; have := H13.out; have := HNE.out
                  exact shr2 (by unfold over; omega))
                go_wp2_with fail
                go_ret
                exact ⟨ret1 FIN.out.symm, B⟩
              · rw [decide_eq_false hh13] at cc
                have CC := hid cc
                have H13 := hid hh13
                clear cc hh13
                have k00 := X0.c0
                have k01 := X0.c1
                have f0 := X0.fr
                have k10 := X1.c0
                have k11 := X1.c1
                have f1 := X1.fr
                have k20 := X2.c0
                have k21 := X2.c1
                have f2 := X2.fr
                have k30 := X3.c0
                have k31 := X3.c1
                have f3 := X3.fr
                go_wp2_with fail
                refine (CC.out _).mono ?_
                rintro e w5 ⟨rfl, hb⟩
                clear CC
                clear k00 k01 f0 k10 k11 f1 k20 k21 f2 k30 k31 f3
                have Y0 := BX.bl X0 hb
                have Y1 := BX.bl X1 hb
                have Y2 := BX.bl X2 hb
                have Y3 := BX.bl X3 hb
                have B2 := Bl.trans (Below.trans B (Below.refl _ _)) hb
                clear X0 X1 X2 X3 B hb
                have X0 := Y0
                have X1 := Y1
                have X2 := Y2
                have X3 := Y3
                have B := B2
                clear Y0 Y1 Y2 Y3 B2
                have FIN := hid (show shr (K (a1, a2)) (K (b1, b2)) (K (c1, c2)) (K (d1, d2)) = 0 by
                  have := H1.out; have := H2.out; have := H3.out; have := H9.out; have := H13.out; have := HNE.out
                  exact shr0 (by unfold over; omega) (by unfold meets; omega))
                go_wp2_with fail
                go_ret
                exact ⟨ret1 FIN.out.symm, B⟩
    · rw [decide_eq_false hh2] at cc
      have CC := hid cc
      have H2 := hid hh2
      clear cc hh2
      have k00 := X0.c0
      have k01 := X0.c1
      have f0 := X0.fr
      have k10 := X1.c0
      have k11 := X1.c1
      have f1 := X1.fr
      have k20 := X2.c0
      have k21 := X2.c1
      have f2 := X2.fr
      have k30 := X3.c0
      have k31 := X3.c1
      have f3 := X3.fr
      go_wp2_with fail
      refine (CC.out _).mono ?_
      rintro e w2 ⟨rfl, hb⟩
      clear CC
      clear k00 k01 f0 k10 k11 f1 k20 k21 f2 k30 k31 f3
      have Y0 := BX.bl (BX.oth (by omega) (BX.set b1 b2 X0)) hb
      have Y1 := BX.bl (BX.set a1 a2 (BX.oth (by omega) X1)) hb
      have Y2 := BX.bl (BX.oth (by omega) (BX.oth (by omega) X2)) hb
      have Y3 := BX.bl (BX.oth (by omega) (BX.oth (by omega) X3)) hb
      have B2 := Bl.trans (Below.trans B (((((Below.refl _ _).setCell hg0 _).setCell hg0 _).setCell hg1 _).setCell hg1 _)) hb
      clear X0 X1 X2 X3 B hb
      have X0 := Y0
      have X1 := Y1
      have X2 := Y2
      have X3 := Y3
      have B := B2
      clear Y0 Y1 Y2 Y3 B2
      have cc := fun w' => RFirst_any (b1, b2) (c1, c2) w' hb hc
      simp only at cc
      by_cases hh14 : K (b1, b2) < K (c1, c2)
      · rw [decide_eq_true hh14] at cc
        have CC := hid cc
        have H14 := hid hh14
        clear cc hh14
        have k00 := X0.c0
        have k01 := X0.c1
        have f0 := X0.fr
        have k10 := X1.c0
        have k11 := X1.c1
        have f1 := X1.fr
        have k20 := X2.c0
        have k21 := X2.c1
        have f2 := X2.fr
        have k30 := X3.c0
        have k31 := X3.c1
        have f3 := X3.fr
        go_wp2_with fail
        refine (CC.out _).mono ?_
        rintro e w3 ⟨rfl, hb⟩
        clear CC
        clear k00 k01 f0 k10 k11 f1 k20 k21 f2 k30 k31 f3
        have Y0 := BX.bl X0 hb
        have Y1 := BX.bl X1 hb
        have Y2 := BX.bl X2 hb
        have Y3 := BX.bl X3 hb
        have B2 := Bl.trans (Below.trans B (Below.refl _ _)) hb
        clear X0 X1 X2 X3 B hb
        have X0 := Y0
        have X1 := Y1
        have X2 := Y2
        have X3 := Y3
        have B := B2
        clear Y0 Y1 Y2 Y3 B2
        have cc := fun w' => RFirst_any (d1, d2) (a1, a2) w' hd ha
        simp only at cc
        by_cases hh15 : K (d1, d2) < K (a1, a2)
        · rw [decide_eq_true hh15] at cc
          have CC := hid cc
          have H15 := hid hh15
          clear cc hh15
          have k00 := X0.c0
          have k01 := X0.c1
          have f0 := X0.fr
          have k10 := X1.c0
          have k11 := X1.c1
          have f1 := X1.fr
          have k20 := X2.c0
          have k21 := X2.c1
          have f2 := X2.fr
          have k30 := X3.c0
          have k31 := X3.c1
          have f3 := X3.fr
          go_wp2_with fail
          refine (CC.out _).mono ?_
          rintro e w4 ⟨rfl, hb⟩
          clear CC
          clear k00 k01 f0 k10 k11 f1 k20 k21 f2 k30 k31 f3
          have Y0 := BX.bl (BX.set c1 c2 X0) hb
          have Y1 := BX.bl (BX.oth (by omega) X1) hb
          have Y2 := BX.bl (BX.oth (by omega) X2) hb
          have Y3 := BX.bl (BX.oth (by omega) X3) hb
          have B2 := Bl.trans (Below.trans B (((Below.refl _ _).setCell hg0 _).setCell hg0 _)) hb
          clear X0 X1 X2 X3 B hb
          have X0 := Y0
          have X1 := Y1
          have X2 := Y2
          have X3 := Y3
          have B := B2
          clear Y0 Y1 Y2 Y3 B2
          by_cases he : (c1, c2) = (d1, d2)
          · have fin : shr (K (a1, a2)) (K (b1, b2)) (K (c1, c2)) (K (d1, d2)) = 1 := by
              have := H1.out; have := H2.out; have := H14.out; have := H15.out; have e0 := congrArg K he
              exact shr1 (by unfold over; omega) (by unfold meets; omega)
            have e1 : c1 = d1 := congrArg Prod.fst he
            have e2 : c2 = d2 := congrArg Prod.snd he
            clear he
            have FIN := hid fin
            clear fin
            have q1 : (c1 == d1) = true := by rw [e1]; exact beq_self_eq_true _
            have q2 : (c2 == d2) = true := by rw [e2]; exact beq_self_eq_true _
            clear e1 e2
            have k00 := X0.c0
            have k01 := X0.c1
            have f0 := X0.fr
            have k10 := X1.c0
            have k11 := X1.c1
            have f1 := X1.fr
            have k20 := X2.c0
            have k21 := X2.c1
            have f2 := X2.fr
            have k30 := X3.c0
            have k31 := X3.c1
            have f3 := X3.fr
            go_wp2_with fail
            go_ret
            exact ⟨ret1 FIN.out.symm, Below.trans B (((Below.refl _ _).setCell hg1 _).setCell hg1 _)⟩
          · have hne : K (c1, c2) ≠ K (d1, d2) := fun h => he ((K_eq hc hd).1 h)
            have hq : (c1 == d1) = false ∨ (c1 = d1 ∧ (c2 == d2) = false) := eq_parts he
            clear he
            have HNE := hid hne
            clear hne
            rcases hq with hq | ⟨hq0, hq⟩
            · have cc := fun w' => RFirst_any (c1, c2) (d1, d2) w' hc hd
              simp only at cc
              by_cases hh16 : K (c1, c2) < K (d1, d2)
              · rw [decide_eq_true hh16] at cc
                have CC := hid cc
                have H16 := hid hh16
                clear cc hh16
                have k00 := X0.c0
                have k01 := X0.c1
                have f0 := X0.fr
                have k10 := X1.c0
                have k11 := X1.c1
                have f1 := X1.fr
                have k20 := X2.c0
                have k21 := X2.c1
                have f2 := X2.fr
                have k30 := X3.c0
                have k31 := X3.c1
                have f3 := X3.fr
                go_wp2_with fail
                refine (CC.out _).mono ?_
                rintro e w5 ⟨rfl, hb⟩
                clear CC
                clear k00 k01 f0 k10 k11 f1 k20 k21 f2 k30 k31 f3
                have Y0 := BX.bl (BX.oth (by omega) X0) hb
                have Y1 := BX.bl (BX.set d1 d2 X1) hb
                have Y2 := BX.bl (BX.oth (by omega) X2) hb
                have Y3 := BX.bl (BX.oth (by omega) X3) hb
                have B2 := Bl.trans (Below.trans B (((Below.refl _ _).setCell hg1 _).setCell hg1 _)) hb
                clear X0 X1 X2 X3 B hb
                have X0 := Y0
                have X1 := Y1
                have X2 := Y2
                have X3 := Y3
                have B := B2
                clear Y0 Y1 Y2 Y3 B2
                have FIN := hid (show shr (K (a1, a2)) (K (b1, b2)) (K (c1, c2)) (K (d1, d2)) = 2 by
                  have := H1.out; have := H2.out; have := H14.out; have := H15.out; have := H16.out; have := HNE.out
                  exact shr2 (by unfold over; omega))
                go_wp2_with fail
                go_ret
                exact ⟨ret1 FIN.out.symm, B⟩
              · rw [decide_eq_false hh16] at cc
                have CC := hid cc
                have H16 := hid hh16
                clear cc hh16
                have k00 := X0.c0
                have k01 := X0.c1
                have f0 := X0.fr
                have k10 := X1.c0
                have k11 := X1.c1
                have f1 := X1.fr
                have k20 := X2.c0
                have k21 := X2.c1
                have f2 := X2.fr
                have k30 := X3.c0
                have k31 := X3.c1
                have f3 := X3.fr
                go_wp2_with fail
                refine (CC.out _).mono ?_
                rintro e w5 ⟨rfl, hb⟩
                clear CC
                clear k00 k01 f0 k10 k11 f1 k20 k21 f2 k30 k31 f3
                have Y0 := BX.bl (BX.oth (by omega) X0) hb
                have Y1 := BX.bl (BX.set d1 d2 X1) hb
                have Y2 := BX.bl (BX.oth (by omega) X2) hb
                have Y3 := BX.bl (BX.oth (by omega) X3) hb
                have B2 := Bl.trans (Below.trans B (((Below.refl _ _).setCell hg1 _).setCell hg1 _)) hb
                clear X0 X1 X2 X3 B hb
                have X0 := Y0
                have X1 := Y1
                have X2 := Y2
                have X3 := Y3
                have B := B2
                clear Y0 Y1 Y2 Y3 B2
                have FIN := hid (show shr (K (a1, a2)) (K (b1, b2)) (K (c1, c2)) (K (d1, d2)) = 0 by
                  have := H1.out; have := H2.out; have := H14.out; have := H15.out; have := H16.out; have := HNE.out
                  exact shr0 (by unfold over; omega) (by unfold meets; omega))
                go_wp2_with fail
                go_ret
                exact ⟨ret1 FIN.out.symm, B⟩
            · have hq1 : (c1 == d1) = true := by rw [hq0]; exact beq_self_eq_true _
              clear hq0
              have cc := fun w' => RFirst_any (c1, c2) (d1, d2) w' hc hd
              simp only at cc
              by_cases hh17 : K (c1, c2) < K (d1, d2)
              · rw [decide_eq_true hh17] at cc
                have CC := hid cc
                have H17 := hid hh17
                clear cc hh17
                have k00 := X0.c0
                have k01 := X0.c1
                have f0 := X0.fr
                have k10 := X1.c0
                have k11 := X1.c1
                have f1 := X1.fr
                have k20 := X2.c0
                have k21 := X2.c1
                have f2 := X2.fr
                have k30 := X3.c0
                have k31 := X3.c1
                have f3 := X3.fr
                go_wp2_with fail
                refine (CC.out _).mono ?_
                rintro e w5 ⟨rfl, hb⟩
                clear CC
                clear k00 k01 f0 k10 k11 f1 k20 k21 f2 k30 k31 f3
                have Y0 := BX.bl (BX.oth (by omega) X0) hb
                have Y1 := BX.bl (BX.set d1 d2 X1) hb
                have Y2 := BX.bl (BX.oth (by omega) X2) hb
                have Y3 := BX.bl (BX.oth (by omega) X3) hb
                have B2 := Bl.trans (Below.trans B (((Below.refl _ _).setCell hg1 _).setCell hg1 _)) hb
                clear X0 X1 X2 X3 B hb
                have X0 := Y0
                have X1 := Y1
                have X2 := Y2
                have X3 := Y3
                have B := B2
                clear Y0 Y1 Y2 Y3 B2
                have FIN := hid (show shr (K (a1, a2)) (K (b1, b2)) (K (c1, c2)) (K (d1, d2)) = 2 by
                  have := H1.out; have := H2.out; have := H14.out; have := H15.out; have := H17.out; have := HNE.out
                  exact shr2 (by unfold over; omega))
                go_wp2_with fail
                go_ret
                exact ⟨ret1 FIN.out.symm, B⟩
              · rw [decide_eq_false hh17] at cc
                have CC := hid cc
                have H17 := hid hh17
                clear cc hh17
                have k00 := X0.c0
                have k01 := X0.c1
                have f0 := X0.fr
                have k10 := X1.c0
                have k11 := X1.c1
                have f1 := X1.fr
                have k20 := X2.c0
                have k21 := X2.c1
                have f2 := X2.fr
                have k30 := X3.c0
                have k31 := X3.c1
                have f3 := X3.fr
                go_wp2_with fail
                refine (CC.out _).mono ?_
                rintro e w5 ⟨rfl, hb⟩
                clear CC
                clear k00 k01 f0 k10 k11 f1 k20 k21 f2 k30 k31 f3
                have Y0 := BX.bl (BX.oth (by omega) X0) hb
                have Y1 := BX.bl (BX.set d1 d2 X1) hb
                have Y2 := BX.bl (BX.oth (by omega) X2) hb
                have Y3 := BX.bl (BX.oth (by omega) X3) hb
                have B2 := Bl.trans (Below.trans B (((Below.refl _ _).setCell hg1 _).setCell hg1 _)) hb
                clear X0 X1 X2 X3 B hb
                have X0 := Y0
                have X1 := Y1
                have X2 := Y2
                have X3 := Y3
                have B := B2
                clear Y0 Y1 Y2 Y3 B2
                have FIN := hid (show shr (K (a1, a2)) (K (b1, b2)) (K (c1, c2)) (K (d1, d2)) = 0 by
                  have := H1.out; have := H2.out; have := H14.out; have := H15.out; have := H17.out; have := HNE.out
                  exact shr0 (by unfold over; omega) (by unfold meets; omega))
                go_wp2_with fail
                go_ret
                exact ⟨ret1 FIN.out.symm, B⟩
        · rw [decide_eq_false hh15] at cc
          have CC := hid cc
          have H15 := hid hh15
          clear cc hh15
          have k00 := X0.c0
          have k01 := X0.c1
          have f0 := X0.fr
          have k10 := X1.c0
          have k11 := X1.c1
          have f1 := X1.fr
          have k20 := X2.c0
          have k21 := X2.c1
          have f2 := X2.fr
          have k30 := X3.c0
          have k31 := X3.c1
          have f3 := X3.fr
          go_wp2_with fail
          refine (CC.out _).mono ?_
          rintro e w4 ⟨rfl, hb⟩
          clear CC
          clear k00 k01 f0 k10 k11 f1 k20 k21 f2 k30 k31 f3
          have Y0 := BX.bl (BX.set c1 c2 X0) hb
          have Y1 := BX.bl (BX.oth (by omega) X1) hb
          have Y2 := BX.bl (BX.oth (by omega) X2) hb
          have Y3 := BX.bl (BX.oth (by omega) X3) hb
          have B2 := Bl.trans (Below.trans B (((Below.refl _ _).setCell hg0 _).setCell hg0 _)) hb
          clear X0 X1 X2 X3 B hb
          have X0 := Y0
          have X1 := Y1
          have X2 := Y2
          have X3 := Y3
          have B := B2
          clear Y0 Y1 Y2 Y3 B2
          by_cases he : (c1, c2) = (a1, a2)
          · have fin : shr (K (a1, a2)) (K (b1, b2)) (K (c1, c2)) (K (d1, d2)) = 1 := by
              have := H1.out; have := H2.out; have := H14.out; have := H15.out; have e0 := congrArg K he
              exact shr1 (by unfold over; omega) (by unfold meets; omega)
            have e1 : c1 = a1 := congrArg Prod.fst he
            have e2 : c2 = a2 := congrArg Prod.snd he
            clear he
            have FIN := hid fin
            clear fin
            have q1 : (c1 == a1) = true := by rw [e1]; exact beq_self_eq_true _
            have q2 : (c2 == a2) = true := by rw [e2]; exact beq_self_eq_true _
            clear e1 e2
            have k00 := X0.c0
            have k01 := X0.c1
            have f0 := X0.fr
            have k10 := X1.c0
            have k11 := X1.c1
            have f1 := X1.fr
            have k20 := X2.c0
            have k21 := X2.c1
            have f2 := X2.fr
            have k30 := X3.c0
            have k31 := X3.c1
            have f3 := X3.fr
            go_wp2_with fail
            go_ret
            exact ⟨ret1 FIN.out.symm, B⟩
          · have hne : K (c1, c2) ≠ K (a1, a2) := fun h => he ((K_eq hc ha).1 h)
            have hq : (c1 == a1) = false ∨ (c1 = a1 ∧ (c2 == a2) = false) := eq_parts he
            clear he
            have HNE := hid hne
            clear hne
            rcases hq with hq | ⟨hq0, hq⟩
            · have cc := fun w' => RFirst_any (c1, c2) (a1, a2) w' hc ha
              simp only at cc
              by_cases hh18 : K (c1, c2) < K (a1, a2)
              · rw [decide_eq_true hh18] at cc
                have CC := hid cc
                have H18 := hid hh18
                clear cc hh18
                have k00 := X0.c0
                have k01 := X0.c1
                have f0 := X0.fr
                have k10 := X1.c0
                have k11 := X1.c1
                have f1 := X1.fr
                have k20 := X2.c0
                have k21 := X2.c1
                have f2 := X2.fr
                have k30 := X3.c0
                have k31 := X3.c1
                have f3 := X3.fr
                go_wp2_with fail
                refine (CC.out _).mono ?_
                rintro e w5 ⟨rfl, hb⟩
                clear CC
                clear k00 k01 f0 k10 k11 f1 k20 k21 f2 k30 k31 f3
                have Y0 := BX.bl X0 hb
                have Y1 := BX.bl X1 hb
                have Y2 := BX.bl X2 hb
                have Y3 := BX.bl X3 hb
                have B2 := Bl.trans (Below.trans B (Below.refl _ _)) hb
                clear X0 X1 X2 X3 B hb
                have X0 := Y0
                have X1 := Y1
                have X2 := Y2
                have X3 := Y3
                have B := B2
                clear Y0 Y1 Y2 Y3 B2
                have FIN := hid (show shr (K (a1, a2)) (K (b1, b2)) (K (c1, c2)) (K (d1, d2)) = 2 by
                  have := H1.out; have := H2.out; have := H14.out; have := H15.out; have := H18.out; have := HNE.out
                  exact shr2 (by unfold over; omega))
                go_wp2_with fail
                go_ret
                exact ⟨ret1 FIN.out.symm, B⟩
              · rw [decide_eq_false hh18] at cc
                have CC := hid cc
                have H18 := hid hh18
                clear cc hh18
                have k00 := X0.c0
                have k01 := X0.c1
                have f0 := X0.fr
                have k10 := X1.c0
                have k11 := X1.c1
                have f1 := X1.fr
                have k20 := X2.c0
                have k21 := X2.c1
                have f2 := X2.fr
                have k30 := X3.c0
                have k31 := X3.c1
                have f3 := X3.fr
                go_wp2_with fail
                refine (CC.out _).mono ?_
                rintro e w5 ⟨rfl, hb⟩
                clear CC
                clear k00 k01 f0 k10 k11 f1 k20 k21 f2 k30 k31 f3
                have Y0 := BX.bl X0 hb
                have Y1 := BX.bl X1 hb
                have Y2 := BX.bl X2 hb
                have Y3 := BX.bl X3 hb
                have B2 := Bl.trans (Below.trans B (Below.refl _ _)) hb
                clear X0 X1 X2 X3 B hb
                have X0 := Y0
                have X1 := Y1
                have X2 := Y2
                have X3 := Y3
                have B := B2
                clear Y0 Y1 Y2 Y3 B2
                have FIN := hid (show shr (K (a1, a2)) (K (b1, b2)) (K (c1, c2)) (K (d1, d2)) = 0 by
                  have := H1.out; have := H2.out; have := H14.out; have := H15.out; have := H18.out; have := HNE.out
                  exact shr0 (by unfold over; omega) (by unfold meets; omega))
                go_wp2_with fail
                go_ret
                exact ⟨ret1 FIN.out.symm, B⟩
            · have hq1 : (c1 == a1) = true := by rw [hq0]; exact beq_self_eq_true _
              clear hq0
              have cc := fun w' => RFirst_any (c1, c2) (a1, a2) w' hc ha
              simp only at cc
              by_cases hh19 : K (c1, c2) < K (a1, a2)
              · rw [decide_eq_true hh19] at cc
                have CC := hid cc
                have H19 := hid hh19
                clear cc hh19
                have k00 := X0.c0
                have k01 := X0.c1
                have f0 := X0.fr
                have k10 := X1.c0
                have k11 := X1.c1
                have f1 := X1.fr
                have k20 := X2.c0
                have k21 := X2.c1
                have f2 := X2.fr
                have k30 := X3.c0
                have k31 := X3.c1
                have f3 := X3.fr
                go_wp2_with fail
                refine (CC.out _).mono ?_
                rintro e w5 ⟨rfl, hb⟩
                clear CC
                clear k00 k01 f0 k10 k11 f1 k20 k21 f2 k30 k31 f3
                have Y0 := BX.bl X0 hb
                have Y1 := BX.bl X1 hb
                have Y2 := BX.bl X2 hb
                have Y3 := BX.bl X3 hb
                have B2 := Bl.trans (Below.trans B (Below.refl _ _)) hb
                clear X0 X1 X2 X3 B hb
                have X0 := Y0
                have X1 := Y1
                have X2 := Y2
                have X3 := Y3
                have B := B2
                clear Y0 Y1 Y2 Y3 B2
                have FIN := hid (show shr (K (a1, a2)) (K (b1, b2)) (K (c1, c2)) (K (d1, d2)) = 2 by
                  have := H1.out; have := H2.out; have := H14.out; have := H15.out; have := H19.out; have := HNE.out
                  exact shr2 (by unfold over; omega))
                go_wp2_with fail
                go_ret
                exact ⟨ret1 FIN.out.symm, B⟩
              · rw [decide_eq_false hh19] at cc
                have CC := hid cc
                have H19 := hid hh19
                clear cc hh19
                have k00 := X0.c0
                have k01 := X0.c1
                have f0 := X0.fr
                have k10 := X1.c0
                have k11 := X1.c1
                have f1 := X1.fr
                have k20 := X2.c0
                have k21 := X2.c1
                have f2 := X2.fr
                have k30 := X3.c0
                have k31 := X3.c1
                have f3 := X3.fr
                go_wp2_with fail
                refine (CC.out _).mono ?_
                rintro e w5 ⟨rfl, hb⟩
                clear CC
                clear k00 k01 f0 k10 k11 f1 k20 k21 f2 k30 k31 f3
                have Y0 := BX.bl X0 hb
                have Y1 := BX.bl X1 hb
                have Y2 := BX.bl X2 hb
                have Y3 := BX.bl X3 hb
                have B2 := Bl.trans (Below.trans B (Below.refl _ _)) hb
                clear X0 X1 X2 X3 B hb
                have X0 := Y0
                have X1 := Y1
                have X2 := Y2
                have X3 := Y3
                have B := B2
                clear Y0 Y1 Y2 Y3 B2
                have FIN := hid (show shr (K (a1, a2)) (K (b1, b2)) (K (c1, c2)) (K (d1, d2)) = 0 by
                  have := H1.out; have := H2.out; have := H14.out; have := H15.out; have := H19.out; have := HNE.out
                  exact shr0 (by unfold over; omega) (by unfold meets; omega))
                go_wp2_with fail
                go_ret
                exact ⟨ret1 FIN.out.symm, B⟩
      · rw [decide_eq_false hh14] at cc
        have CC := hid cc
        have H14 := hid hh14
        clear cc hh14
        have k00 := X0.c0
        have k01 := X0.c1
        have f0 := X0.fr
        have k10 := X1.c0
        have k11 := X1.c1
        have f1 := X1.fr
        have k20 := X2.c0
        have k21 := X2.c1
        have f2 := X2.fr
        have k30 := X3.c0
        have k31 := X3.c1
        have f3 := X3.fr
        go_wp2_with fail
        refine (CC.out _).mono ?_
        rintro e w3 ⟨rfl, hb⟩
        clear CC
        clear k00 k01 f0 k10 k11 f1 k20 k21 f2 k30 k31 f3
        have Y0 := BX.bl X0 hb
        have Y1 := BX.bl X1 hb
        have Y2 := BX.bl X2 hb
        have Y3 := BX.bl X3 hb
        have B2 := Bl.trans (Below.trans B (Below.refl _ _)) hb
        clear X0 X1 X2 X3 B hb
        have X0 := Y0
        have X1 := Y1
        have X2 := Y2
        have X3 := Y3
        have B := B2
        clear Y0 Y1 Y2 Y3 B2
        have cc := fun w' => RFirst_any (d1, d2) (a1, a2) w' hd ha
        simp only at cc
        by_cases hh20 : K (d1, d2) < K (a1, a2)
        · rw [decide_eq_true hh20] at cc
          have CC := hid cc
          have H20 := hid hh20
          clear cc hh20
          have k00 := X0.c0
          have k01 := X0.c1
          have f0 := X0.fr
          have k10 := X1.c0
          have k11 := X1.c1
          have f1 := X1.fr
          have k20 := X2.c0
          have k21 := X2.c1
          have f2 := X2.fr
          have k30 := X3.c0
          have k31 := X3.c1
          have f3 := X3.fr
          go_wp2_with fail
          refine (CC.out _).mono ?_
          rintro e w4 ⟨rfl, hb⟩
          clear CC
          clear k00 k01 f0 k10 k11 f1 k20 k21 f2 k30 k31 f3
          have Y0 := BX.bl X0 hb
          have Y1 := BX.bl X1 hb
          have Y2 := BX.bl X2 hb
          have Y3 := BX.bl X3 hb
          have B2 := Bl.trans (Below.trans B (Below.refl _ _)) hb
          clear X0 X1 X2 X3 B hb
          have X0 := Y0
          have X1 := Y1
          have X2 := Y2
          have X3 := Y3
          have B := B2
          clear Y0 Y1 Y2 Y3 B2
          by_cases he : (b1, b2) = (d1, d2)
          · have fin : shr (K (a1, a2)) (K (b1, b2)) (K (c1, c2)) (K (d1, d2)) = 1 := by
              have := H1.out; have := H2.out; have := H14.out; have := H20.out; have e0 := congrArg K he
              exact shr1 (by unfold over; omega) (by unfold meets; omega)
            have e1 : b1 = d1 := congrArg Prod.fst he
            have e2 : b2 = d2 := congrArg Prod.snd he
            clear he
            have FIN := hid fin
            clear fin
            have q1 : (b1 == d1) = true := by rw [e1]; exact beq_self_eq_true _
            have q2 : (b2 == d2) = true := by rw [e2]; exact beq_self_eq_true _
            clear e1 e2
            have k00 := X0.c0
            have k01 := X0.c1
            have f0 := X0.fr
            have k10 := X1.c0
            have k11 := X1.c1
            have f1 := X1.fr
            have k20 := X2.c0
            have k21 := X2.c1
            have f2 := X2.fr
            have k30 := X3.c0
            have k31 := X3.c1
            have f3 := X3.fr
            go_wp2_with fail
            go_ret
            exact ⟨ret1 FIN.out.symm, Below.trans B (((Below.refl _ _).setCell hg1 _).setCell hg1 _)⟩
          · have hne : K (b1, b2) ≠ K (d1, d2) := fun h => he ((K_eq hb hd).1 h)
            have hq : (b1 == d1) = false ∨ (b1 = d1 ∧ (b2 == d2) = false) := eq_parts he
            clear he
            have HNE := hid hne
            clear hne
            rcases hq with hq | ⟨hq0, hq⟩
            · have cc := fun w' => RFirst_any (b1, b2) (d1, d2) w' hb hd
              simp only at cc
              by_cases hh21 : K (b1, b2) < K (d1, d2)
              · rw [decide_eq_true hh21] at cc
                have CC := hid cc
                have H21 := hid hh21
                clear cc hh21
                have k00 := X0.c0
                have k01 := X0.c1
                have f0 := X0.fr
                have k10 := X1.c0
                have k11 := X1.c1
                have f1 := X1.fr
                have k20 := X2.c0
                have k21 := X2.c1
                have f2 := X2.fr
                have k30 := X3.c0
                have k31 := X3.c1
                have f3 := X3.fr
                go_wp2_with fail
                refine (CC.out _).mono ?_
                rintro e w5 ⟨rfl, hb⟩
                clear CC
                clear k00 k01 f0 k10 k11 f1 k20 k21 f2 k30 k31 f3
                have Y0 := BX.bl (BX.oth (by omega) X0) hb
                have Y1 := BX.bl (BX.set d1 d2 X1) hb
                have Y2 := BX.bl (BX.oth (by omega) X2) hb
                have Y3 := BX.bl (BX.oth (by omega) X3) hb
                have B2 := Bl.trans (Below.trans B (((Below.refl _ _).setCell hg1 _).setCell hg1 _)) hb
                clear X0 X1 X2 X3 B hb
                have X0 := Y0
                have X1 := Y1
                have X2 := Y2
                have X3 := Y3
                have B := B2
                clear Y0 Y1 Y2 Y3 B2
                have FIN := hid (show shr (K (a1, a2)) (K (b1, b2)) (K (c1, c2)) (K (d1, d2)) = 2 by
                  have := H1.out; have := H2.out; have := H14.out; have := H20.out; have := H21.out; have := HNE.out
                  exact shr2 (by unfold over; omega))
                go_wp2_with fail
                go_ret
                exact ⟨ret1 FIN.out.symm, B⟩
              · rw [decide_eq_false hh21] at cc
                have CC := hid cc
                have H21 := hid hh21
                clear cc hh21
                have k00 := X0.c0
                have k01 := X0.c1
                have f0 := X0.fr
                have k10 := X1.c0
                have k11 := X1.c1
                have f1 := X1.fr
                have k20 := X2.c0
                have k21 := X2.c1
                have f2 := X2.fr
                have k30 := X3.c0
                have k31 := X3.c1
                have f3 := X3.fr
                go_wp2_with fail
                refine (CC.out _).mono ?_
                rintro e w5 ⟨rfl, hb⟩
                clear CC
                clear k00 k01 f0 k10 k11 f1 k20 k21 f2 k30 k31 f3
                have Y0 := BX.bl (BX.oth (by omega) X0) hb
                have Y1 := BX.bl (BX.set d1 d2 X1) hb
                have Y2 := BX.bl (BX.oth (by omega) X2) hb
                have Y3 := BX.bl (BX.oth (by omega) X3) hb
                have B2 := Bl.trans (Below.trans B (((Below.refl _ _).setCell hg1 _).setCell hg1 _)) hb
                clear X0 X1 X2 X3 B hb
                have X0 := Y0
                have X1 := Y1
                have X2 := Y2
                have X3 := Y3
                have B := B2
                clear Y0 Y1 Y2 Y3 B2
                have FIN := hid (show shr (K (a1, a2)) (K (b1, b2)) (K (c1, c2)) (K (d1, d2)) = 0 by
                  have := H1.out; have := H2.out; have := H14.out; have := H20.out; have := H21.out; have := HNE.out
                  exact shr0 (by unfold over; omega) (by unfold meets; omega))
                go_wp2_with fail
                go_ret
                exact ⟨ret1 FIN.out.symm, B⟩
            · have hq1 : (b1 == d1) = true := by rw [hq0]; exact beq_self_eq_true _
              clear hq0
              have cc := fun w' => RFirst_any (b1, b2) (d1, d2) w' hb hd
              simp only at cc
              by_cases hh22 : K (b1, b2) < K (d1, d2)
              · rw [decide_eq_true hh22] at cc
                have CC := hid cc
                have H22 := hid hh22
                clear cc hh22
                have k00 := X0.c0
                have k01 := X0.c1
                have f0 := X0.fr
                have k10 := X1.c0
                have k11 := X1.c1
                have f1 := X1.fr
                have k20 := X2.c0
                have k21 := X2.c1
                have f2 := X2.fr
                have k30 := X3.c0
                have k31 := X3.c1
                have f3 := X3.fr
                go_wp2_with fail
                refine (CC.out _).mono ?_
                rintro e w5 ⟨rfl, hb⟩
                clear CC
                clear k00 k01 f0 k10 k11 f1 k20 k21 f2 k30 k31 f3
                have Y0 := BX.bl (BX.oth (by omega) X0) hb
                have Y1 := BX.bl (BX.set d1 d2 X1) hb
                have Y2 := BX.bl (BX.oth (by omega) X2) hb
                have Y3 := BX.bl (BX.oth (by omega) X3) hb
                have B2 := Bl.trans (Below.trans B (((Below.refl _ _).setCell hg1 _).setCell hg1 _)) hb
                clear X0 X1 X2 X3 B hb
                have X0 := Y0
                have X1 := Y1
                have X2 := Y2
                have X3 := Y3
                have B := B2
                clear Y0 Y1 Y2 Y3 B2
                have FIN := hid (show shr (K (a1, a2)) (K (b1, b2)) (K (c1, c2)) (K (d1, d2)) = 2 by
                  have := H1.out; have := H2.out; have := H14.out; have := H20.out; have := H22.out; have := HNE.out
                  exact shr2 (by unfold over; omega))
                go_wp2_with fail
                go_ret
                exact ⟨ret1 FIN.out.symm, B⟩
              · rw [decide_eq_false hh22] at cc
                have CC := hid cc
                have H22 := hid hh22
                clear cc hh22
                have k00 := X0.c0
                have k01 := X0.c1
                have f0 := X0.fr
                have k10 := X1.c0
                have k11 := X1.c1
                have f1 := X1.fr
                have k20 := X2.c0
                have k21 := X2.c1
                have f2 := X2.fr
                have k30 := X3.c0
                have k31 := X3.c1
                have f3 := X3.fr
                go_wp2_with fail
                refine (CC.out _).mono ?_
                rintro e w5 ⟨rfl, hb⟩
                clear CC
                clear k00 k01 f0 k10 k11 f1 k20 k21 f2 k30 k31 f3
                have Y0 := BX.bl (BX.oth (by omega) X0) hb
                have Y1 := BX.bl (BX.set d1 d2 X1) hb
                have Y2 := BX.bl (BX.oth (by omega) X2) hb
                have Y3 := BX.bl (BX.oth (by omega) X3) hb
                have B2 := Bl.trans (Below.trans B (((Below.refl _ _).setCell hg1 _).setCell hg1 _)) hb
                clear X0 X1 X2 X3 B hb
                have X0 := Y0
                have X1 := Y1
                have X2 := Y2
                have X3 := Y3
                have B := B2
                clear Y0 Y1 Y2 Y3 B2
                have FIN := hid (show shr (K (a1, a2)) (K (b1, b2)) (K (c1, c2)) (K (d1, d2)) = 0 by
                  have := H1.out; have := H2.out; have := H14.out; have := H20.out; have := H22.out; have := HNE.out
                  exact shr0 (by unfold over; omega) (by unfold meets; omega))
                go_wp2_with fail
                go_ret
                exact ⟨ret1 FIN.out.symm, B⟩
        · rw [decide_eq_false hh20] at cc
          have CC := hid cc
          have H20 := hid hh20
          clear cc hh20
          have k00 := X0.c0
          have k01 := X0.c1
          have f0 := X0.fr
          have k10 := X1.c0
          have k11 := X1.c1
          have f1 := X1.fr
          have k20 := X2.c0
          have k21 := X2.c1
          have f2 := X2.fr
          have k30 := X3.c0
          have k31 := X3.c1
          have f3 := X3.fr
          go_wp2_with fail
          refine (CC.out _).mono ?_
          rintro e w4 ⟨rfl, hb⟩
          clear CC
          clear k00 k01 f0 k10 k11 f1 k20 k21 f2 k30 k31 f3
          have Y0 := BX.bl X0 hb
          have Y1 := BX.bl X1 hb
          have Y2 := BX.bl X2 hb
          have Y3 := BX.bl X3 hb
          have B2 := Bl.trans (Below.trans B (Below.refl _ _)) hb
          clear X0 X1 X2 X3 B hb
          have X0 := Y0
          have X1 := Y1
          have X2 := Y2
          have X3 := Y3
          have B := B2
          clear Y0 Y1 Y2 Y3 B2
          by_cases he : (b1, b2) = (a1, a2)
          · have fin : shr (K (a1, a2)) (K (b1, b2)) (K (c1, c2)) (K (d1, d2)) = 1 := by
              have := H1.out; have := H2.out; have := H14.out; have := H20.out; have e0 := congrArg K he
              exact shr1 (by unfold over; omega) (by unfold meets; omega)
            have e1 : b1 = a1 := congrArg Prod.fst he
            have e2 : b2 = a2 := congrArg Prod.snd he
            clear he
            have FIN := hid fin
            clear fin
            have q1 : (b1 == a1) = true := by rw [e1]; exact beq_self_eq_true _
            have q2 : (b2 == a2) = true := by rw [e2]; exact beq_self_eq_true _
            clear e1 e2
            have k00 := X0.c0
            have k01 := X0.c1
            have f0 := X0.fr
            have k10 := X1.c0
            have k11 := X1.c1
            have f1 := X1.fr
            have k20 := X2.c0
            have k21 := X2.c1
            have f2 := X2.fr
            have k30 := X3.c0
            have k31 := X3.c1
            have f3 := X3.fr
            go_wp2_with fail
            go_ret
            exact ⟨ret1 FIN.out.symm, B⟩
          · have hne : K (b1, b2) ≠ K (a1, a2) := fun h => he ((K_eq hb ha).1 h)
            have hq : (b1 == a1) = false ∨ (b1 = a1 ∧ (b2 == a2) = false) := eq_parts he
            clear he
            have HNE := hid hne
            clear hne
            rcases hq with hq | ⟨hq0, hq⟩
            · have cc := fun w' => RFirst_any (b1, b2) (a1, a2) w' hb ha
              simp only at cc
              by_cases hh23 : K (b1, b2) < K (a1, a2)
              · rw [decide_eq_true hh23] at cc
                have CC := hid cc
                have H23 := hid hh23
                clear cc hh23
                have k00 := X0.c0
                have k01 := X0.c1
                have f0 := X0.fr
                have k10 := X1.c0
                have k11 := X1.c1
                have f1 := X1.fr
                have k20 := X2.c0
                have k21 := X2.c1
                have f2 := X2.fr
                have k30 := X3.c0
                have k31 := X3.c1
                have f3 := X3.fr
                go_wp2_with fail
                refine (CC.out _).mono ?_
                rintro e w5 ⟨rfl, hb⟩
                clear CC
                clear k00 k01 f0 k10 k11 f1 k20 k21 f2 k30 k31 f3
                have Y0 := BX.bl X0 hb
                have Y1 := BX.bl X1 hb
                have Y2 := BX.bl X2 hb
                have Y3 := BX.bl X3 hb
                have B2 := Bl.trans (Below.trans B (Below.refl _ _)) hb
                clear X0 X1 X2 X3 B hb
                have X0 := Y0
                have X1 := Y1
                have X2 := Y2
                have X3 := Y3
                have B := B2
                clear Y0 Y1 Y2 Y3 B2
                have FIN := hid (show shr (K (a1, a2)) (K (b1, b2)) (K (c1, c2)) (K (d1, d2)) = 2 by
                  have := H1.out; have := H2.out; have := H14.out; have := H20.out; have := H23.out; have := HNE.out
                  exact shr2 (by unfold over; omega))
                go_wp2_with fail
                go_ret
                exact ⟨ret1 FIN.out.symm, B⟩
              · rw [decide_eq_false hh23] at cc
                have CC := hid cc
                have H23 := hid hh23
                clear cc hh23
                have k00 := X0.c0
                have k01 := X0.c1
                have f0 := X0.fr
                have k10 := X1.c0
                have k11 := X1.c1
                have f1 := X1.fr
                have k20 := X2.c0
                have k21 := X2.c1
                have f2 := X2.fr
                have k30 := X3.c0
                have k31 := X3.c1
                have f3 := X3.fr
                go_wp2_with fail
                refine (CC.out _).mono ?_
                rintro e w5 ⟨rfl, hb⟩
                clear CC
                clear k00 k01 f0 k10 k11 f1 k20 k21 f2 k30 k31 f3
                have Y0 := BX.bl X0 hb
                have Y1 := BX.bl X1 hb
                have Y2 := BX.bl X2 hb
                have Y3 := BX.bl X3 hb
                have B2 := Bl.trans (Below.trans B (Below.refl _ _)) hb
                clear X0 X1 X2 X3 B hb
                have X0 := Y0
                have X1 := Y1
                have X2 := Y2
                have X3 := Y3
                have B := B2
                clear Y0 Y1 Y2 Y3 B2
                have FIN := hid (show shr (K (a1, a2)) (K (b1, b2)) (K (c1, c2)) (K (d1, d2)) = 0 by
                  have := H1.out; have := H2.out; have := H14.out; have := H20.out; have := H23.out; have := HNE.out
                  exact shr0 (by unfold over; omega) (by unfold meets; omega))
                go_wp2_with fail
                go_ret
                exact ⟨ret1 FIN.out.symm, B⟩
            · have hq1 : (b1 == a1) = true := by rw [hq0]; exact beq_self_eq_true _
              clear hq0
              have cc := fun w' => RFirst_any (b1, b2) (a1, a2) w' hb ha
              simp only at cc
              by_cases hh24 : K (b1, b2) < K (a1, a2)
              · rw [decide_eq_true hh24] at cc
                have CC := hid cc
                have H24 := hid hh24
                clear cc hh24
                have k00 := X0.c0
                have k01 := X0.c1
                have f0 := X0.fr
                have k10 := X1.c0
                have k11 := X1.c1
                have f1 := X1.fr
                have k20 := X2.c0
                have k21 := X2.c1
                have f2 := X2.fr
                have k30 := X3.c0
                have k31 := X3.c1
                have f3 := X3.fr
                go_wp2_with fail
                refine (CC.out _).mono ?_
                rintro e w5 ⟨rfl, hb⟩
                clear CC
                clear k00 k01 f0 k10 k11 f1 k20 k21 f2 k30 k31 f3
                have Y0 := BX.bl X0 hb
                have Y1 := BX.bl X1 hb
                have Y2 := BX.bl X2 hb
                have Y3 := BX.bl X3 hb
                have B2 := Bl.trans (Below.trans B (Below.refl _ _)) hb
                clear X0 X1 X2 X3 B hb
                have X0 := Y0
                have X1 := Y1
                have X2 := Y2
                have X3 := Y3
                have B := B2
                clear Y0 Y1 Y2 Y3 B2
                have FIN := hid (show shr (K (a1, a2)) (K (b1, b2)) (K (c1, c2)) (K (d1, d2)) = 2 by
                  have := H1.out; have := H2.out; have := H14.out; have := H20.out; have := H24.out; have := HNE.out
                  exact shr2 (by unfold over; omega))
                go_wp2_with fail
                go_ret
                exact ⟨ret1 FIN.out.symm, B⟩
              · rw [decide_eq_false hh24] at cc
                have CC := hid cc
                have H24 := hid hh24
                clear cc hh24
                have k00 := X0.c0
                have k01 := X0.c1
                have f0 := X0.fr
                have k10 := X1.c0
                have k11 := X1.c1
                have f1 := X1.fr
                have k20 := X2.c0
                have k21 := X2.c1
                have f2 := X2.fr
                have k30 := X3.c0
                have k31 := X3.c1
                have f3 := X3.fr
                go_wp2_with fail
                refine (CC.out _).mono ?_
                rintro e w5 ⟨rfl, hb⟩
                clear CC
                clear k00 k01 f0 k10 k11 f1 k20 k21 f2 k30 k31 f3
                have Y0 := BX.bl X0 hb
                have Y1 := BX.bl X1 hb
                have Y2 := BX.bl X2 hb
                have Y3 := BX.bl X3 hb
                have B2 := Bl.trans (Below.trans B (Below.refl _ _)) hb
                clear X0 X1 X2 X3 B hb
                have X0 := Y0
                have X1 := Y1
                have X2 := Y2
                have X3 := Y3
                have B := B2
                clear Y0 Y1 Y2 Y3 B2
                have FIN := hid (show shr (K (a1, a2)) (K (b1, b2)) (K (c1, c2)) (K (d1, d2)) = 0 by
                  have := H1.out; have := H2.out; have := H14.out; have := H20.out; have := H24.out; have := HNE.out
                  exact shr0 (by unfold over; omega) (by unfold meets; omega))
                go_wp2_with fail
                go_ret
                exact ⟨ret1 FIN.out.symm, B⟩
  · rw [decide_eq_false hh1] at cc
    have CC := hid cc
    have H1 := hid hh1
    clear cc hh1
    go_wp2_with fail
    refine (CC.out _).mono ?_
    rintro e w1 ⟨rfl, hb⟩
    clear CC
    obtain ⟨X0, X1, X2, X3⟩ := box4 hb
    have B : Bl w w1 := Bl.trans (((((Bl.refl w).alloc _).alloc _).alloc _).alloc _) hb
    clear hb
    have cc := fun w' => RFirst_any (d1, d2) (c1, c2) w' hd hc
    simp only at cc
    by_cases hh25 : K (d1, d2) < K (c1, c2)
    · rw [decide_eq_true hh25] at cc
      have CC := hid cc
      have H25 := hid hh25
      clear cc hh25
      have k00 := X0.c0
      have k01 := X0.c1
      have f0 := X0.fr
      have k10 := X1.c0
      have k11 := X1.c1
      have f1 := X1.fr
      have k20 := X2.c0
      have k21 := X2.c1
      have f2 := X2.fr
      have k30 := X3.c0
      have k31 := X3.c1
      have f3 := X3.fr
      go_wp2_with fail
      refine (CC.out _).mono ?_
      rintro e w2 ⟨rfl, hb⟩
      clear CC
      clear k00 k01 f0 k10 k11 f1 k20 k21 f2 k30 k31 f3
      have Y0 := BX.bl X0 hb
      have Y1 := BX.bl X1 hb
      have Y2 := BX.bl X2 hb
      have Y3 := BX.bl X3 hb
      have B2 := Bl.trans (Below.trans B (Below.refl _ _)) hb
      clear X0 X1 X2 X3 B hb
      have X0 := Y0
      have X1 := Y1
      have X2 := Y2
      have X3 := Y3
      have B := B2
      clear Y0 Y1 Y2 Y3 B2
      have cc := fun w' => RFirst_any (a1, a2) (d1, d2) w' ha hd
      simp only at cc
      by_cases hh26 : K (a1, a2) < K (d1, d2)
      · rw [decide_eq_true hh26] at cc
        have CC := hid cc
        have H26 := hid hh26
        clear cc hh26
        have k00 := X0.c0
        have k01 := X0.c1
        have f0 := X0.fr
        have k10 := X1.c0
        have k11 := X1.c1
        have f1 := X1.fr
        have k20 := X2.c0
        have k21 := X2.c1
        have f2 := X2.fr
        have k30 := X3.c0
        have k31 := X3.c1
        have f3 := X3.fr
        go_wp2_with fail
        refine (CC.out _).mono ?_
        rintro e w3 ⟨rfl, hb⟩
        clear CC
        clear k00 k01 f0 k10 k11 f1 k20 k21 f2 k30 k31 f3
        have Y0 := BX.bl (BX.oth (by omega) (BX.oth (by omega) X0)) hb
        have Y1 := BX.bl (BX.oth (by omega) (BX.oth (by omega) X1)) hb
        have Y2 := BX.bl (BX.oth (by omega) (BX.set d1 d2 X2)) hb
        have Y3 := BX.bl (BX.set c1 c2 (BX.oth (by omega) X3)) hb
        have B2 := Bl.trans (Below.trans B (((((Below.refl _ _).setCell hg2 _).setCell hg2 _).setCell hg3 _).setCell hg3 _)) hb
        clear X0 X1 X2 X3 B hb
        have X0 := Y0
        have X1 := Y1
        have X2 := Y2
        have X3 := Y3
        have B := B2
        clear Y0 Y1 Y2 Y3 B2
        have cc := fun w' => RFirst_any (c1, c2) (b1, b2) w' hc hb
        simp only at cc
        by_cases hh27 : K (c1, c2) < K (b1, b2)
        · rw [decide_eq_true hh27] at cc
          have CC := hid cc
          have H27 := hid hh27
          clear cc hh27
          have k00 := X0.c0
          have k01 := X0.c1
          have f0 := X0.fr
          have k10 := X1.c0
          have k11 := X1.c1
          have f1 := X1.fr
          have k20 := X2.c0
          have k21 := X2.c1
          have f2 := X2.fr
          have k30 := X3.c0
          have k31 := X3.c1
          have f3 := X3.fr
          go_wp2_with fail
          refine (CC.out _).mono ?_
          rintro e w4 ⟨rfl, hb⟩
          clear CC
          clear k00 k01 f0 k10 k11 f1 k20 k21 f2 k30 k31 f3
          have Y0 := BX.bl (BX.set d1 d2 X0) hb
          have Y1 := BX.bl (BX.oth (by omega) X1) hb
          have Y2 := BX.bl (BX.oth (by omega) X2) hb
          have Y3 := BX.bl (BX.oth (by omega) X3) hb
          have B2 := Bl.trans (Below.trans B (((Below.refl _ _).setCell hg0 _).setCell hg0 _)) hb
          clear X0 X1 X2 X3 B hb
          have X0 := Y0
          have X1 := Y1
          have X2 := Y2
          have X3 := Y3
          have B := B2
          clear Y0 Y1 Y2 Y3 B2
          by_cases he : (d1, d2) = (c1, c2)
          · have fin : shr (K (a1, a2)) (K (b1, b2)) (K (c1, c2)) (K (d1, d2)) = 1 := by
              have := H1.out; have := H25.out; have := H26.out; have := H27.out; have e0 := congrArg K he
              exact shr1 (by unfold over; omega) (by unfold meets; omega)
            have e1 : d1 = c1 := congrArg Prod.fst he
            have e2 : d2 = c2 := congrArg Prod.snd he
            clear he
            have FIN := hid fin
            clear fin
            have q1 : (d1 == c1) = true := by rw [e1]; exact beq_self_eq_true _
            have q2 : (d2 == c2) = true := by rw [e2]; exact beq_self_eq_true _
            clear e1 e2
            have k00 := X0.c0
            have k01 := X0.c1
            have f0 := X0.fr
            have k10 := X1.c0
            have k11 := X1.c1
            have f1 := X1.fr
            have k20 := X2.c0
            have k21 := X2.c1
            have f2 := X2.fr
            have k30 := X3.c0
            have k31 := X3.c1
            have f3 := X3.fr
            go_wp2_with fail
            go_ret
            exact ⟨ret1 FIN.out.symm, Below.trans B (((Below.refl _ _).setCell hg1 _).setCell hg1 _)⟩
          · have hne : K (d1, d2) ≠ K (c1, c2) := fun h => he ((K_eq hd hc).1 h)
            have hq : (d1 == c1) = false ∨ (d1 = c1 ∧ (d2 == c2) = false) := eq_parts he
            clear he
            have HNE := hid hne
            clear hne
            rcases hq with hq | ⟨hq0, hq⟩
            · have cc := fun w' => RFirst_any (d1, d2) (c1, c2) w' hd hc
              simp only at cc
              by_cases hh28 : K (d1, d2) < K (c1, c2)
              · rw [decide_eq_true hh28] at cc
                have CC := hid cc
                have H28 := hid hh28
                clear cc hh28
                have k00 := X0.c0
                have k01 := X0.c1
                have f0 := X0.fr
                have k10 := X1.c0
                have k11 := X1.c1
                have f1 := X1.fr
                have k20 := X2.c0
                have k21 := X2.c1
                have f2 := X2.fr
                have k30 := X3.c0
                have k31 := X3.c1
                have f3 := X3.fr
                go_wp2_with fail
                refine (CC.out _).mono ?_
                rintro e w5 ⟨rfl, hb⟩
                clear CC
                clear k00 k01 f0 k10 k11 f1 k20 k21 f2 k30 k31 f3
                have Y0 := BX.bl (BX.oth (by omega) X0) hb
                have Y1 := BX.bl (BX.set c1 c2 X1) hb
                have Y2 := BX.bl (BX.oth (by omega) X2) hb
                have Y3 := BX.bl (BX.oth (by omega) X3) hb
                have B2 := Bl.trans (Below.trans B (((Below.refl _ _).setCell hg1 _).setCell hg1 _)) hb
                clear X0 X1 X2 X3 B hb
                have X0 := Y0
                have X1 := Y1
                have X2 := Y2
                have X3 := Y3
                have B := B2
                clear Y0 Y1 Y2 Y3 B2
                have FIN := hid (show shr (K (a1, a2)) (K (b1, b2)) (K (c1, c2)) (K (d1, d2)) = 2 by
                  have := H1.out; have := H25.out; have := H26.out; have := H27.out; have := H28.out; have := HNE.out
                  exact shr2 (by unfold over; omega))
                go_wp2_with fail
                go_ret
                exact ⟨ret1 FIN.out.symm, B⟩
              · rw [decide_eq_false hh28] at cc
                have CC := hid cc
                have H28 := hid hh28
                clear cc hh28
                have k00 := X0.c0
                have k01 := X0.c1
                have f0 := X0.fr
                have k10 := X1.c0
                have k11 := X1.c1
                have f1 := X1.fr
                have k20 := X2.c0
                have k21 := X2.c1
                have f2 := X2.fr
                have k30 := X3.c0
                have k31 := X3.c1
                have f3 := X3.fr
                go_wp2_with fail
                refine (CC.out _).mono ?_
                rintro e w5 ⟨rfl, hb⟩
                clear CC
                clear k00 k01 f0 k10 k11 f1 k20 k21 f2 k30 k31 f3
                have Y0 := BX.bl (BX.oth (by omega) X0) hb
                have Y1 := BX.bl (BX.set c1 c2 X1) hb
                have Y2 := BX.bl (BX.oth (by omega) X2) hb
                have Y3 := BX.bl (BX.oth (by omega) X3) hb
                have B2 := Bl.trans (Below.trans B (((Below.refl _ _).setCell hg1 _).setCell hg1 _)) hb
                clear X0 X1 X2 X3 B hb
                have X0 := Y0
                have X1 := Y1
                have X2 := Y2
                have X3 := Y3
                have B := B2
                clear Y0 Y1 Y2 Y3 B2
                have FIN := hid (show shr (K (a1, a2)) (K (b1, b2)) (K (c1, c2)) (K (d1, d2)) = 0 by
                  have := H1.out; have := H25.out; have := H26.out; have := H27.out; have := H28.out; have := HNE.out
                  exact shr0 (by unfold over; omega) (by unfold meets; omega))
                go_wp2_with fail
                go_ret
                exact ⟨ret1 FIN.out.symm, B⟩
            · have hq1 : (d1 == c1) = true := by rw [hq0]; exact beq_self_eq_true _
              clear hq0
              have cc := fun w' => RFirst_any (d1, d2) (c1, c2) w' hd hc
              simp only at cc
              by_cases hh29 : K (d1, d2) < K (c1, c2)
              · rw [decide_eq_true hh29] at cc
                have CC := hid cc
                have H29 := hid hh29
                clear cc hh29
                have k00 := X0.c0
                have k01 := X0.c1
                have f0 := X0.fr
                have k10 := X1.c0
                have k11 := X1.c1
                have f1 := X1.fr
                have k20 := X2.c0
                have k21 := X2.c1
                have f2 := X2.fr
                have k30 := X3.c0
                have k31 := X3.c1
                have f3 := X3.fr
                go_wp2_with fail
                refine (CC.out _).mono ?_
                rintro e w5 ⟨rfl, hb⟩
                clear CC
                clear k00 k01 f0 k10 k11 f1 k20 k21 f2 k30 k31 f3
                have Y0 := BX.bl (BX.oth (by omega) X0) hb
                have Y1 := BX.bl (BX.set c1 c2 X1) hb
                have Y2 := BX.bl (BX.oth (by omega) X2) hb
                have Y3 := BX.bl (BX.oth (by omega) X3) hb
                have B2 := Bl.trans (Below.trans B (((Below.refl _ _).setCell hg1 _).setCell hg1 _)) hb
                clear X0 X1 X2 X3 B hb
                have X0 := Y0
                have X1 := Y1
                have X2 := Y2
                have X3 := Y3
                have B := B2
                clear Y0 Y1 Y2 Y3 B2
                have FIN := hid (show shr (K (a1, a2)) (K (b1, b2)) (K (c1, c2)) (K (d1, d2)) = 2 by
                  have := H1.out; have := H25.out; have := H26.out; have := H27.out; have := H29.out; have := HNE.out
                  exact shr2 (by unfold over; omega))
                go_wp2_with fail
                go_ret
                exact ⟨ret1 FIN.out.symm, B⟩
              · rw [decide_eq_false hh29] at cc
                have CC := hid cc
                have H29 := hid hh29
                clear cc hh29
                have k00 := X0.c0
                have k01 := X0.c1
                have f0 := X0.fr
                have k10 := X1.c0
                have k11 := X1.c1
                have f1 := X1.fr
                have k20 := X2.c0
                have k21 := X2.c1
                have f2 := X2.fr
                have k30 := X3.c0
                have k31 := X3.c1
                have f3 := X3.fr
                go_wp2_with fail
                refine (CC.out _).mono ?_
                rintro e w5 ⟨rfl, hb⟩
                clear CC
                clear k00 k01 f0 k10 k11 f1 k20 k21 f2 k30 k31 f3
                have Y0 := BX.bl (BX.oth (by omega) X0) hb
                have Y1 := BX.bl (BX.set c1 c2 X1) hb
                have Y2 := BX.bl (BX.oth (by omega) X2) hb
                have Y3 := BX.bl (BX.oth (by omega) X3) hb
                have B2 := Bl.trans (Below.trans B (((Below.refl _ _).setCell hg1 _).setCell hg1 _)) hb
                clear X0 X1 X2 X3 B hb
                have X0 := Y0
                have X1 := Y1
                have X2 := Y2
                have X3 := Y3
                have B := B2
                clear Y0 Y1 Y2 Y3 B2
                have FIN := hid (show shr (K (a1, a2)) (K (b1, b2)) (K (c1, c2)) (K (d1, d2)) = 0 by
                  have := H1.out; have := H25.out; have := H26.out; have := H27.out; have := H29.out; have := HNE.out
                  exact shr0 (by unfold over; omega) (by unfold meets; omega))
                go_wp2_with fail
                go_ret
                exact ⟨ret1 FIN.out.symm, B⟩
        · rw [decide_eq_false hh27] at cc
          have CC := hid cc
          have H27 := hid hh27
          clear cc hh27
          have k00 := X0.c0
          have k01 := X0.c1
          have f0 := X0.fr
          have k10 := X1.c0
          have k11 := X1.c1
          have f1 := X1.fr
          have k20 := X2.c0
          have k21 := X2.c1
          have f2 := X2.fr
          have k30 := X3.c0
          have k31 := X3.c1
          have f3 := X3.fr
          go_wp2_with fail
          refine (CC.out _).mono ?_
          rintro e w4 ⟨rfl, hb⟩
          clear CC
          clear k00 k01 f0 k10 k11 f1 k20 k21 f2 k30 k31 f3
          have Y0 := BX.bl (BX.set d1 d2 X0) hb
          have Y1 := BX.bl (BX.oth (by omega) X1) hb
          have Y2 := BX.bl (BX.oth (by omega) X2) hb
          have Y3 := BX.bl (BX.oth (by omega) X3) hb
          have B2 := Bl.trans (Below.trans B (((Below.refl _ _).setCell hg0 _).setCell hg0 _)) hb
          clear X0 X1 X2 X3 B hb
          have X0 := Y0
          have X1 := Y1
          have X2 := Y2
          have X3 := Y3
          have B := B2
          clear Y0 Y1 Y2 Y3 B2
          by_cases he : (d1, d2) = (b1, b2)
          · have fin : shr (K (a1, a2)) (K (b1, b2)) (K (c1, c2)) (K (d1, d2)) = 1 := by
              have := H1.out; have := H25.out; have := H26.out; have := H27.out; have e0 := congrArg K he
              exact shr1 (by unfold over; omega) (by unfold meets; omega)
            have e1 : d1 = b1 := congrArg Prod.fst he
            have e2 : d2 = b2 := congrArg Prod.snd he
            clear he
            have FIN := hid fin
            clear fin
            have q1 : (d1 == b1) = true := by rw [e1]; exact beq_self_eq_true _
            have q2 : (d2 == b2) = true := by rw [e2]; exact beq_self_eq_true _
            clear e1 e2
            have k00 := X0.c0
            have k01 := X0.c1
            have f0 := X0.fr
            have k10 := X1.c0
            have k11 := X1.c1
            have f1 := X1.fr
            have k20 := X2.c0
            have k21 := X2.c1
            have f2 := X2.fr
            have k30 := X3.c0
            have k31 := X3.c1
            have f3 := X3.fr
            go_wp2_with fail
            go_ret
            exact ⟨ret1 FIN.out.symm, B⟩
          · have hne : K (d1, d2) ≠ K (b1, b2) := fun h => he ((K_eq hd hb).1 h)
            have hq : (d1 == b1) = false ∨ (d1 = b1 ∧ (d2 == b2) = false) := eq_parts he
            clear he
            have HNE := hid hne
            clear hne
            rcases hq with hq | ⟨hq0, hq⟩
            · have cc := fun w' => RFirst_any (d1, d2) (b1, b2) w' hd hb
              simp only at cc
              by_cases hh30 : K (d1, d2) < K (b1, b2)
              · rw [decide_eq_true hh30] at cc
                have CC := hid cc
                have H30 := hid hh30
                clear cc hh30
                have k00 := X0.c0
                have k01 := X0.c1
                have f0 := X0.fr
                have k10 := X1.c0
                have k11 := X1.c1
                have f1 := X1.fr
                have k20 := X2.c0
                have k21 := X2.c1
                have f2 := X2.fr
                have k30 := X3.c0
                have k31 := X3.c1
                have f3 := X3.fr
                go_wp2_with fail
                refine (CC.out _).mono ?_
                rintro e w5 ⟨rfl, hb⟩
                clear CC
                clear k00 k01 f0 k10 k11 f1 k20 k21 f2 k30 k31 f3
                have Y0 := BX.bl X0 hb
                have Y1 := BX.bl X1 hb
                have Y2 := BX.bl X2 hb
                have Y3 := BX.bl X3 hb
                have B2 := Bl.trans (Below.trans B (Below.refl _ _)) hb
                clear X0 X1 X2 X3 B hb
                have X0 := Y0
                have X1 := Y1
                have X2 := Y2
                have X3 := Y3
                have B := B2
                clear Y0 Y1 Y2 Y3 B2
                have FIN := hid (show shr (K (a1, a2)) (K (b1, b2)) (K (c1, c2)) (K (d1, d2)) = 2 by
                  have := H1.out; have := H25.out; have := H26.out; have := H27.out; have := H30.out; have := HNE.out
                  exact shr2 (by unfold over; omega))
                go_wp2_with fail
                go_ret
                exact ⟨ret1 FIN.out.symm, B⟩
              · rw [decide_eq_false hh30] at cc
                have CC := hid cc
                have H30 := hid hh30
                clear cc hh30
                have k00 := X0.c0
                have k01 := X0.c1
                have f0 := X0.fr
                have k10 := X1.c0
                have k11 := X1.c1
                have f1 := X1.fr
                have k20 := X2.c0
                have k21 := X2.c1
                have f2 := X2.fr
                have k30 := X3.c0
                have k31 := X3.c1
                have f3 := X3.fr
                go_wp2_with fail
                refine (CC.out _).mono ?_
                rintro e w5 ⟨rfl, hb⟩
                clear CC
                clear k00 k01 f0 k10 k11 f1 k20 k21 f2 k30 k31 f3
                have Y0 := BX.bl X0 hb
                have Y1 := BX.bl X1 hb
                have Y2 := BX.bl X2 hb
                have Y3 := BX.bl X3 hb
                have B2 := Bl.trans (Below.trans B (Below.refl _ _)) hb
                clear X0 X1 X2 X3 B hb
                have X0 := Y0
                have X1 := Y1
                have X2 := Y2
                have X3 := Y3
                have B := B2
                clear Y0 Y1 Y2 Y3 B2
                have FIN := hid (show shr (K (a1, a2)) (K (b1, b2)) (K (c1, c2)) (K (d1, d2)) = 0 by
                  have := H1.out; have := H25.out; have := H26.out; have := H27.out; have := H30.out; have := HNE.out
                  exact shr0 (by unfold over; omega) (by unfold meets; omega))
                go_wp2_with fail
                go_ret
                exact ⟨ret1 FIN.out.symm, B⟩
            · have hq1 : (d1 == b1) = true := by rw [hq0]; exact beq_self_eq_true _
              clear hq0
              have cc := fun w' => RFirst_any (d1, d2) (b1, b2) w' hd hb
              simp only at cc
              by_cases hh31 : K (d1, d2) < K (b1, b2)
              · rw [decide_eq_true hh31] at cc
                have CC := hid cc
                have H31 := hid hh31
                clear cc hh31
                have k00 := X0.c0
                have k01 := X0.c1
                have f0 := X0.fr
                have k10 := X1.c0
                have k11 := X1.c1
                have f1 := X1.fr
                have k20 := X2.c0
                have k21 := X2.c1
                have f2 := X2.fr
                have k30 := X3.c0
                have k31 := X3.c1
                have f3 := X3.fr
                go_wp2_with fail
                refine (CC.out _).mono ?_
                rintro e w5 ⟨rfl, hb⟩
                clear CC
                clear k00 k01 f0 k10 k11 f1 k20 k21 f2 k30 k31 f3
                have Y0 := BX.bl X0 hb
                have Y1 := BX.bl X1 hb
                have Y2 := BX.bl X2 hb
                have Y3 := BX.bl X3 hb
                have B2 := Bl.trans (Below.trans B (Below.refl _ _)) hb
                clear X0 X1 X2 X3 B hb
                have X0 := Y0
                have X1 := Y1
                have X2 := Y2
                have X3 := Y3
                have B := B2
                clear Y0 Y1 Y2 Y3 B2
                have FIN := hid (show shr (K (a1, a2)) (K (b1, b2)) (K (c1, c2)) (K (d1, d2)) = 2 by
                  have := H1.out; have := H25.out; have := H26.out; have := H27.out; have := H31.out; have := HNE.out
                  exact shr2 (by unfold over; omega))
                go_wp2_with fail
                go_ret
                exact ⟨ret1 FIN.out.symm, B⟩
              · rw [decide_eq_false hh31] at cc
                have CC := hid cc
                have H31 := hid hh31
                clear cc hh31
                have k00 := X0.c0
                have k01 := X0.c1
                have f0 := X0.fr
                have k10 := X1.c0
                have k11 := X1.c1
                have f1 := X1.fr
                have k20 := X2.c0
                have k21 := X2.c1
                have f2 := X2.fr
                have k30 := X3.c0
                have k31 := X3.c1
                have f3 := X3.fr
                go_wp2_with fail
                refine (CC.out _).mono ?_
                rintro e w5 ⟨rfl, hb⟩
                clear CC
                clear k00 k01 f0 k10 k11 f1 k20 k21 f2 k30 k31 f3
                have Y0 := BX.bl X0 hb
                have Y1 := BX.bl X1 hb
                have Y2 := BX.bl X2 hb
                have Y3 := BX.bl X3 hb
                have B2 := Bl.trans (Below.trans B (Below.refl _ _)) hb
                clear X0 X1 X2 X3 B hb
                have X0 := Y0
                have X1 := Y1
                have X2 := Y2
                have X3 := Y3
                have B := B2
                clear Y0 Y1 Y2 Y3 B2
                have FIN := hid (show shr (K (a1, a2)) (K (b1, b2)) (K (c1, c2)) (K (d1, d2)) = 0 by
                  have := H1.out; have := H25.out; have := H26.out; have := H27.out; have := H31.out; have := HNE.out
                  exact shr0 (by unfold over; omega) (by unfold meets; omega))
                go_wp2_with fail
                go_ret
                exact ⟨ret1 FIN.out.symm, B⟩
      · rw [decide_eq_false hh26] at cc
        have CC := hid cc
        have H26 := hid hh26
        clear cc hh26
        have k00 := X0.c0
        have k01 := X0.c1
        have f0 := X0.fr
        have k10 := X1.c0
        have k11 := X1.c1
        have f1 := X1.fr
        have k20 := X2.c0
        have k21 := X2.c1
        have f2 := X2.fr
        have k30 := X3.c0
        have k31 := X3.c1
        have f3 := X3.fr
        go_wp2_with fail
        refine (CC.out _).mono ?_
        rintro e w3 ⟨rfl, hb⟩
        clear CC
        clear k00 k01 f0 k10 k11 f1 k20 k21 f2 k30 k31 f3
        have Y0 := BX.bl (BX.oth (by omega) (BX.oth (by omega) X0)) hb
        have Y1 := BX.bl (BX.oth (by omega) (BX.oth (by omega) X1)) hb
        have Y2 := BX.bl (BX.oth (by omega) (BX.set d1 d2 X2)) hb
        have Y3 := BX.bl (BX.set c1 c2 (BX.oth (by omega) X3)) hb
        have B2 := Bl.trans (Below.trans B (((((Below.refl _ _).setCell hg2 _).setCell hg2 _).setCell hg3 _).setCell hg3 _)) hb
        clear X0 X1 X2 X3 B hb
        have X0 := Y0
        have X1 := Y1
        have X2 := Y2
        have X3 := Y3
        have B := B2
        clear Y0 Y1 Y2 Y3 B2
        have cc := fun w' => RFirst_any (c1, c2) (b1, b2) w' hc hb
        simp only at cc
        by_cases hh32 : K (c1, c2) < K (b1, b2)
        · rw [decide_eq_true hh32] at cc
          have CC := hid cc
          have H32 := hid hh32
          clear cc hh32
          have k00 := X0.c0
          have k01 := X0.c1
          have f0 := X0.fr
          have k10 := X1.c0
          have k11 := X1.c1
          have f1 := X1.fr
          have k20 := X2.c0
          have k21 := X2.c1
          have f2 := X2.fr
          have k30 := X3.c0
          have k31 := X3.c1
          have f3 := X3.fr
          go_wp2_with fail
          refine (CC.out _).mono ?_
          rintro e w4 ⟨rfl, hb⟩
          clear CC
          clear k00 k01 f0 k10 k11 f1 k20 k21 f2 k30 k31 f3
          have Y0 := BX.bl X0 hb
          have Y1 := BX.bl X1 hb
          have Y2 := BX.bl X2 hb
          have Y3 := BX.bl X3 hb
          have B2 := Bl.trans (Below.trans B (Below.refl _ _)) hb
          clear X0 X1 X2 X3 B hb
          have X0 := Y0
          have X1 := Y1
          have X2 := Y2
          have X3 := Y3
          have B := B2
          clear Y0 Y1 Y2 Y3 B2
          by_cases he : (a1, a2) = (c1, c2)
          · have fin : shr (K (a1, a2)) (K (b1, b2)) (K (c1, c2)) (K (d1, d2)) = 1 := by
              have := H1.out; have := H25.out; have := H26.out; have := H32.out; have e0 := congrArg K he
              exact shr1 (by unfold over; omega) (by unfold meets; omega)
            have e1 : a1 = c1 := congrArg Prod.fst he
            have e2 : a2 = c2 := congrArg Prod.snd he
            clear he
            have FIN := hid fin
            clear fin
            have q1 : (a1 == c1) = true := by rw [e1]; exact beq_self_eq_true _
            have q2 : (a2 == c2) = true := by rw [e2]; exact beq_self_eq_true _
            clear e1 e2
            have k00 := X0.c0
            have k01 := X0.c1
            have f0 := X0.fr
            have k10 := X1.c0
            have k11 := X1.c1
            have f1 := X1.fr
            have k20 := X2.c0
            have k21 := X2.c1
            have f2 := X2.fr
            have k30 := X3.c0
            have k31 := X3.c1
            have f3 := X3.fr
            go_wp2_with fail
            go_ret
            exact ⟨ret1 FIN.out.symm, Below.trans B (((Below.refl _ _).setCell hg1 _).setCell hg1 _)⟩
          · have hne : K (a1, a2) ≠ K (c1, c2) := fun h => he ((K_eq ha hc).1 h)
            have hq : (a1 == c1) = false ∨ (a1 = c1 ∧ (a2 == c2) = false) := eq_parts he
            clear he
            have HNE := hid hne
            clear hne
            rcases hq with hq | ⟨hq0, hq⟩
            · have cc := fun w' => RFirst_any (a1, a2) (c1, c2) w' ha hc
              simp only at cc
              by_cases hh33 : K (a1, a2) < K (c1, c2)
              · rw [decide_eq_true hh33] at cc
                have CC := hid cc
                have H33 := hid hh33
                clear cc hh33
                have k00 := X0.c0
                have k01 := X0.c1
                have f0 := X0.fr
                have k10 := X1.c0
                have k11 := X1.c1
                have f1 := X1.fr
                have k20 := X2.c0
                have k21 := X2.c1
                have f2 := X2.fr
                have k30 := X3.c0
                have k31 := X3.c1
                have f3 := X3.fr
                go_wp2_with fail
                refine (CC.out _).mono ?_
                rintro e w5 ⟨rfl, hb⟩
                clear CC
                clear k00 k01 f0 k10 k11 f1 k20 k21 f2 k30 k31 f3
                have Y0 := BX.bl (BX.oth (by omega) X0) hb
                have Y1 := BX.bl (BX.set c1 c2 X1) hb
                have Y2 := BX.bl (BX.oth (by omega) X2) hb
                have Y3 := BX.bl (BX.oth (by omega) X3) hb
                have B2 := Bl.trans (Below.trans B (((Below.refl _ _).setCell hg1 _).setCell hg1 _)) hb
                clear X0 X1 X2 X3 B hb
                have X0 := Y0
                have X1 := Y1
                have X2 := Y2
                have X3 := Y3
                have B := B2
                clear Y0 Y1 Y2 Y3 B2
                have FIN := hid (show shr (K (a1, a2)) (K (b1, b2)) (K (c1, c2)) (K (d1, d2)) = 2 by
                  have := H1.out; have := H25.out; have := H26.out; have := H32.out; have := H33.out; have := HNE.out
                  exact shr2 (by unfold over; omega))
                go_wp2_with fail
                go_ret
                exact ⟨ret1 FIN.out.symm, B⟩
              · rw [decide_eq_false hh33] at cc
                have CC := hid cc
                have H33 := hid hh33
                clear cc hh33
                have k00 := X0.c0
                have k01 := X0.c1
                have f0 := X0.fr
                have k10 := X1.c0
                have k11 := X1.c1
                have f1 := X1.fr
                have k20 := X2.c0
                have k21 := X2.c1
                have f2 := X2.fr
                have k30 := X3.c0
                have k31 := X3.c1
                have f3 := X3.fr
                go_wp2_with fail
                refine (CC.out _).mono ?_
                rintro e w5 ⟨rfl, hb⟩
                clear CC
                clear k00 k01 f0 k10 k11 f1 k20 k21 f2 k30 k31 f3
                have Y0 := BX.bl (BX.oth (by omega) X0) hb
                have Y1 := BX.bl (BX.set c1 c2 X1) hb
                have Y2 := BX.bl (BX.oth (by omega) X2) hb
                have Y3 := BX.bl (BX.oth (by omega) X3) hb
                have B2 := Bl.trans (Below.trans B (((Below.refl _ _).setCell hg1 _).setCell hg1 _)) hb
                clear X0 X1 X2 X3 B hb
                have X0 := Y0
                have X1 := Y1
                have X2 := Y2
                have X3 := Y3
                have B := B2
                clear Y0 Y1 Y2 Y3 B2
                have FIN := hid (show shr (K (a1, a2)) (K (b1, b2)) (K (c1, c2)) (K (d1, d2)) = 0 by
                  have := H1.out; have := H25.out; have := H26.out; have := H32.out; have := H33.out; have := HNE.out
                  exact shr0 (by unfold over; omega) (by unfold meets; omega))
                go_wp2_with fail
                go_ret
                exact ⟨ret1 FIN.out.symm, B⟩
            · have hq1 : (a1 == c1) = true := by rw [hq0]; exact beq_self_eq_true _
              clear hq0
              have cc := fun w' => RFirst_any (a1, a2) (c1, c2) w' ha hc
              simp only at cc
              by_cases hh34 : K (a1, a2) < K (c1, c2)
              · rw [decide_eq_true hh34] at cc
                have CC := hid cc
                have H34 := hid hh34
                clear cc hh34
                have k00 := X0.c0
                have k01 := X0.c1
                have f0 := X0.fr
                have k10 := X1.c0
                have k11 := X1.c1
                have f1 := X1.fr
                have k20 := X2.c0
                have k21 := X2.c1
                have f2 := X2.fr
                have k30 := X3.c0
                have k31 := X3.c1
                have f3 := X3.fr
                go_wp2_with fail
                refine (CC.out _).mono ?_
                rintro e w5 ⟨rfl, hb⟩
                clear CC
                clear k00 k01 f0 k10 k11 f1 k20 k21 f2 k30 k31 f3
                have Y0 := BX.bl (BX.oth (by omega) X0) hb
                have Y1 := BX.bl (BX.set c1 c2 X1) hb
                have Y2 := BX.bl (BX.oth (by omega) X2) hb
                have Y3 := BX.bl (BX.oth (by omega) X3) hb
                have B2 := Bl.trans (Below.trans B (((Below.refl _ _).setCell hg1 _).setCell hg1 _)) hb
                clear X0 X1 X2 X3 B hb
                have X0 := Y0
                have X1 := Y1
                have X2 := Y2
                have X3 := Y3
                have B := B2
                clear Y0 Y1 Y2 Y3 B2
                have FIN := hid (show shr (K (a1, a2)) (K (b1, b2)) (K (c1, c2)) (K (d1, d2)) = 2 by
                  have := H1.out; have := H25.out; have := H26.out; have := H32.out; have := H34.out; have := HNE.out
                  exact shr2 (by unfold over; omega))
                go_wp2_with fail
                go_ret
                exact ⟨ret1 FIN.out.symm, B⟩
              · rw [decide_eq_false hh34] at cc
                have CC := hid cc
                have H34 := hid hh34
                clear cc hh34
                have k00 := X0.c0
                have k01 := X0.c1
                have f0 := X0.fr
                have k10 := X1.c0
                have k11 := X1.c1
                have f1 := X1.fr
                have k20 := X2.c0
                have k21 := X2.c1
                have f2 := X2.fr
                have k30 := X3.c0
                have k31 := X3.c1
                have f3 := X3.fr
                go_wp2_with fail
                refine (CC.out _).mono ?_
                rintro e w5 ⟨rfl, hb⟩
                clear CC
                clear k00 k01 f0 k10 k11 f1 k20 k21 f2 k30 k31 f3
                have Y0 := BX.bl (BX.oth (by omega) X0) hb
                have Y1 := BX.bl (BX.set c1 c2 X1) hb
                have Y2 := BX.bl (BX.oth (by omega) X2) hb
                have Y3 := BX.bl (BX.oth (by omega) X3) hb
                have B2 := Bl.trans (Below.trans B (((Below.refl _ _).setCell hg1 _).setCell hg1 _)) hb
                clear X0 X1 X2 X3 B hb
                have X0 := Y0
                have X1 := Y1
                have X2 := Y2
                have X3 := Y3
                have B := B2
                clear Y0 Y1 Y2 Y3 B2
                have FIN := hid (show shr (K (a1, a2)) (K (b1, b2)) (K (c1, c2)) (K (d1, d2)) = 0 by
                  have := H1.out; have := H25.out; have := H26.out; have := H32.out; have := H34.out; have := HNE.out
                  exact shr0 (by unfold over; omega) (by unfold meets; omega))
                go_wp2_with fail
                go_ret
                exact ⟨ret1 FIN.out.symm, B⟩
        · rw [decide_eq_false hh32] at cc
          have CC := hid cc
          have H32 := hid hh32
          clear cc hh32
          have k00 := X0.c0
          have k01 := X0.c1
          have f0 := X0.fr
          have k10 := X1.c0
          have k11 := X1.c1
          have f1 := X1.fr
          have k20 := X2.c0
          have k21 := X2.c1
          have f2 := X2.fr
          have k30 := X3.c0
          have k31 := X3.c1
          have f3 := X3.fr
          go_wp2_with fail
          refine (CC.out _).mono ?_
          rintro e w4 ⟨rfl, hb⟩
          clear CC
          clear k00 k01 f0 k10 k11 f1 k20 k21 f2 k30 k31 f3
          have Y0 := BX.bl X0 hb
          have Y1 := BX.bl X1 hb
          have Y2 := BX.bl X2 hb
          have Y3 := BX.bl X3 hb
          have B2 := Bl.trans (Below.trans B (Below.refl _ _)) hb
          clear X0 X1 X2 X3 B hb
          have X0 := Y0
          have X1 := Y1
          have X2 := Y2
          have X3 := Y3
          have B := B2
          clear Y0 Y1 Y2 Y3 B2
          by_cases he : (a1, a2) = (b1, b2)
          · have fin : shr (K (a1, a2)) (K (b1, b2)) (K (c1, c2)) (K (d1, d2)) = 1 := by
              have := H1.out; have := H25.out; have := H26.out; have := H32.out; have e0 := congrArg K he
              exact shr1 (by unfold over; omega) (by unfold meets; omega)
            have e1 : a1 = b1 := congrArg Prod.fst he
            have e2 : a2 = b2 := congrArg Prod.snd he
            clear he
            have FIN := hid fin
            clear fin
            have q1 : (a1 == b1) = true := by rw [e1]; exact beq_self_eq_true _
            have q2 : (a2 == b2) = true := by rw [e2]; exact beq_self_eq_true _
            clear e1 e2
            have k00 := X0.c0
            have k01 := X0.c1
            have f0 := X0.fr
            have k10 := X1.c0
            have k11 := X1.c1
            have f1 := X1.fr
            have k20 := X2.c0
            have k21 := X2.c1
            have f2 := X2.fr
            have k30 := X3.c0
            have k31 := X3.c1
            have f3 := X3.fr
            go_wp2_with fail
            go_ret
            exact ⟨ret1 FIN.out.symm, B⟩
          · have hne : K (a1, a2) ≠ K (b1, b2) := fun h => he ((K_eq ha hb).1 h)
            have hq : (a1 == b1) = false ∨ (a1 = b1 ∧ (a2 == b2) = false) := eq_parts he
            clear he
            have HNE := hid hne
            clear hne
            rcases hq with hq | ⟨hq0, hq⟩
            · have cc := fun w' => RFirst_any (a1, a2) (b1, b2) w' ha hb
              simp only at cc
              by_cases hh35 : K (a1, a2) < K (b1, b2)
              · rw [decide_eq_true hh35] at cc
                have CC := hid cc
                have H35 := hid hh35
                clear cc hh35
                have k00 := X0.c0
                have k01 := X0.c1
                have f0 := X0.fr
                have k10 := X1.c0
                have k11 := X1.c1
                have f1 := X1.fr
                have k20 := X2.c0
                have k21 := X2.c1
                have f2 := X2.fr
                have k30 := X3.c0
                have k31 := X3.c1
                have f3 := X3.fr
                go_wp2_with fail
                refine (CC.out _).mono ?_
                rintro e w5 ⟨rfl, hb⟩
                clear CC
                clear k00 k01 f0 k10 k11 f1 k20 k21 f2 k30 k31 f3
                have Y0 := BX.bl X0 hb
                have Y1 := BX.bl X1 hb
                have Y2 := BX.bl X2 hb
                have Y3 := BX.bl X3 hb
                have B2 := Bl.trans (Below.trans B (Below.refl _ _)) hb
                clear X0 X1 X2 X3 B hb
                have X0 := Y0
                have X1 := Y1
                have X2 := Y2
                have X3 := Y3
                have B := B2
                clear Y0 Y1 Y2 Y3 B2
                have FIN := hid (show shr (K (a1, a2)) (K (b1, b2)) (K (c1, c2)) (K (d1, d2)) = 2 by
                  have := H1.out; have := H25.out; have := H26.out; have := H32.out; have := H35.out; have := HNE.out
                  exact shr2 (by unfold over; omega))
                go_wp2_with fail
                go_ret
                exact ⟨ret1 FIN.out.symm, B⟩
              · rw [decide_eq_false hh35] at cc
                have CC := hid cc
                have H35 := hid hh35
                clear cc hh35
                have k00 := X0.c0
                have k01 := X0.c1
                have f0 := X0.fr
                have k10 := X1.c0
                have k11 := X1.c1
                have f1 := X1.fr
                have k20 := X2.c0
                have k21 := X2.c1
                have f2 := X2.fr
                have k30 := X3.c0
                have k31 := X3.c1
                have f3 := X3.fr
                go_wp2_with fail
                refine (CC.out _).mono ?_
                rintro e w5 ⟨rfl, hb⟩
                clear CC
                clear k00 k01 f0 k10 k11 f1 k20 k21 f2 k30 k31 f3
                have Y0 := BX.bl X0 hb
                have Y1 := BX.bl X1 hb
                have Y2 := BX.bl X2 hb
                have Y3 := BX.bl X3 hb
                have B2 := Bl.trans (Below.trans B (Below.refl _ _)) hb
                clear X0 X1 X2 X3 B hb
                have X0 := Y0
                have X1 := Y1
                have X2 := Y2
                have X3 := Y3
                have B := B2
                clear Y0 Y1 Y2 Y3 B2
                have FIN := hid (show shr (K (a1, a2)) (K (b1, b2)) (K (c1, c2)) (K (d1, d2)) = 0 by
                  have := H1.out; have := H25.out; have := H26.out; have := H32.out; have := H35.out; have := HNE.out
                  exact shr0 (by unfold over; omega) (by unfold meets; omega))
                go_wp2_with fail
                go_ret
                exact ⟨ret1 FIN.out.symm, B⟩
            · have hq1 : (a1 == b1) = true := by rw [hq0]; exact beq_self_eq_true _
              clear hq0
              have cc := fun w' => RFirst_any (a1, a2) (b1, b2) w' ha hb
              simp only at cc
              by_cases hh36 : K (a1, a2) < K (b1, b2)
              · rw [decide_eq_true hh36] at cc
                have CC := hid cc
                have H36 := hid hh36
                clear cc hh36
                have k00 := X0.c0
                have k01 := X0.c1
                have f0 := X0.fr
                have k10 := X1.c0
                have k11 := X1.c1
                have f1 := X1.fr
                have k20 := X2.c0
                have k21 := X2.c1
                have f2 := X2.fr
                have k30 := X3.c0
                have k31 := X3.c1
                have f3 := X3.fr
                go_wp2_with fail
                refine (CC.out _).mono ?_
                rintro e w5 ⟨rfl, hb⟩
                clear CC
                clear k00 k01 f0 k10 k11 f1 k20 k21 f2 k30 k31 f3
                have Y0 := BX.bl X0 hb
                have Y1 := BX.bl X1 hb
                have Y2 := BX.bl X2 hb
                have Y3 := BX.bl X3 hb
                have B2 := Bl.trans (Below.trans B (Below.refl _ _)) hb
                clear X0 X1 X2 X3 B hb
                have X0 := Y0
                have X1 := Y1
                have X2 := Y2
                have X3 := Y3
                have B := B2
                clear Y0 Y1 Y2 Y3 B2
                have FIN := hid (show shr (K (a1, a2)) (K (b1, b2)) (K (c1, c2)) (K (d1, d2)) = 2 by
                  have := H1.out; have := H25.out; have := H26.out; have := H32.out; have := H36.out; have := HNE.out
                  exact shr2 (by unfold over; omega))
                go_wp2_with fail
                go_ret
                exact ⟨ret1 FIN.out.symm, B⟩
              · rw [decide_eq_false hh36] at cc
                have CC := hid cc
                have H36 := hid hh36
                clear cc hh36
                have k00 := X0.c0
                have k01 := X0.c1
                have f0 := X0.fr
                have k10 := X1.c0
                have k11 := X1.c1
                have f1 := X1.fr
                have k20 := X2.c0
                have k21 := X2.c1
                have f2 := X2.fr
                have k30 := X3.c0
                have k31 := X3.c1
                have f3 := X3.fr
                go_wp2_with fail
                refine (CC.out _).mono ?_
                rintro e w5 ⟨rfl, hb⟩
                clear CC
                clear k00 k01 f0 k10 k11 f1 k20 k21 f2 k30 k31 f3
                have Y0 := BX.bl X0 hb
                have Y1 := BX.bl X1 hb
                have Y2 := BX.bl X2 hb
                have Y3 := BX.bl X3 hb
                have B2 := Bl.trans (Below.trans B (Below.refl _ _)) hb
                clear X0 X1 X2 X3 B hb
                have X0 := Y0
                have X1 := Y1
                have X2 := Y2
                have X3 := Y3
                have B := B2
                clear Y0 Y1 Y2 Y3 B2
                have FIN := hid (show shr (K (a1, a2)) (K (b1, b2)) (K (c1, c2)) (K (d1, d2)) = 0 by
                  have := H1.out; have := H25.out; have := H26.out; have := H32.out; have := H36.out; have := HNE.out
                  exact shr0 (by unfold over; omega) (by unfold meets; omega))
                go_wp2_with fail
                go_ret
                exact ⟨ret1 FIN.out.symm, B⟩
    · rw [decide_eq_false hh25] at cc
      have CC := hid cc
      have H25 := hid hh25
      clear cc hh25
      have k00 := X0.c0
      have k01 := X0.c1
      have f0 := X0.fr
      have k10 := X1.c0
      have k11 := X1.c1
      have f1 := X1.fr
      have k20 := X2.c0
      have k21 := X2.c1
      have f2 := X2.fr
      have k30 := X3.c0
      have k31 := X3.c1
      have f3 := X3.fr
      go_wp2_with fail
      refine (CC.out _).mono ?_
      rintro e w2 ⟨rfl, hb⟩
      clear CC
      clear k00 k01 f0 k10 k11 f1 k20 k21 f2 k30 k31 f3
      have Y0 := BX.bl X0 hb
      have Y1 := BX.bl X1 hb
      have Y2 := BX.bl X2 hb
      have Y3 := BX.bl X3 hb
      have B2 := Bl.trans (Below.trans B (Below.refl _ _)) hb
      clear X0 X1 X2 X3 B hb
      have X0 := Y0
      have X1 := Y1
      have X2 := Y2
      have X3 := Y3
      have B := B2
      clear Y0 Y1 Y2 Y3 B2
      have cc := fun w' => RFirst_any (a1, a2) (c1, c2) w' ha hc
      simp only at cc
      by_cases hh37 : K (a1, a2) < K (c1, c2)
      · rw [decide_eq_true hh37] at cc
        have CC := hid cc
        have H37 := hid hh37
        clear cc hh37
        have k00 := X0.c0
        have k01 := X0.c1
        have f0 := X0.fr
        have k10 := X1.c0
        have k11 := X1.c1
        have f1 := X1.fr
        have k20 := X2.c0
        have k21 := X2.c1
        have f2 := X2.fr
        have k30 := X3.c0
        have k31 := X3.c1
        have f3 := X3.fr
        go_wp2_with fail
        refine (CC.out _).mono ?_
        rintro e w3 ⟨rfl, hb⟩
        clear CC
        clear k00 k01 f0 k10 k11 f1 k20 k21 f2 k30 k31 f3
        have Y0 := BX.bl X0 hb
        have Y1 := BX.bl X1 hb
        have Y2 := BX.bl X2 hb
        have Y3 := BX.bl X3 hb
        have B2 := Bl.trans (Below.trans B (Below.refl _ _)) hb
        clear X0 X1 X2 X3 B hb
        have X0 := Y0
        have X1 := Y1
        have X2 := Y2
        have X3 := Y3
        have B := B2
        clear Y0 Y1 Y2 Y3 B2
        have cc := fun w' => RFirst_any (d1, d2) (b1, b2) w' hd hb
        simp only at cc
        by_cases hh38 : K (d1, d2) < K (b1, b2)
        · rw [decide_eq_true hh38] at cc
          have CC := hid cc
          have H38 := hid hh38
          clear cc hh38
          have k00 := X0.c0
          have k01 := X0.c1
          have f0 := X0.fr
          have k10 := X1.c0
          have k11 := X1.c1
          have f1 := X1.fr
          have k20 := X2.c0
          have k21 := X2.c1
          have f2 := X2.fr
          have k30 := X3.c0
          have k31 := X3.c1
          have f3 := X3.fr
          go_wp2_with fail
          refine (CC.out _).mono ?_
          rintro e w4 ⟨rfl, hb⟩
          clear CC
          clear k00 k01 f0 k10 k11 f1 k20 k21 f2 k30 k31 f3
          have Y0 := BX.bl (BX.set c1 c2 X0) hb
          have Y1 := BX.bl (BX.oth (by omega) X1) hb
          have Y2 := BX.bl (BX.oth (by omega) X2) hb
          have Y3 := BX.bl (BX.oth (by omega) X3) hb
          have B2 := Bl.trans (Below.trans B (((Below.refl _ _).setCell hg0 _).setCell hg0 _)) hb
          clear X0 X1 X2 X3 B hb
          have X0 := Y0
          have X1 := Y1
          have X2 := Y2
          have X3 := Y3
          have B := B2
          clear Y0 Y1 Y2 Y3 B2
          by_cases he : (c1, c2) = (d1, d2)
          · have fin : shr (K (a1, a2)) (K (b1, b2)) (K (c1, c2)) (K (d1, d2)) = 1 := by
              have := H1.out; have := H25.out; have := H37.out; have := H38.out; have e0 := congrArg K he
              exact shr1 (by unfold over; omega) (by unfold meets; omega)
            have e1 : c1 = d1 := congrArg Prod.fst he
            have e2 : c2 = d2 := congrArg Prod.snd he
            clear he
            have FIN := hid fin
            clear fin
            have q1 : (c1 == d1) = true := by rw [e1]; exact beq_self_eq_true _
            have q2 : (c2 == d2) = true := by rw [e2]; exact beq_self_eq_true _
            clear e1 e2
            have k00 := X0.c0
            have k01 := X0.c1
            have f0 := X0.fr
            have k10 := X1.c0
            have k11 := X1.c1
            have f1 := X1.fr
            have k20 := X2.c0
            have k21 := X2.c1
            have f2 := X2.fr
            have k30 := X3.c0
            have k31 := X3.c1
            have f3 := X3.fr
            go_wp2_with fail
            go_ret
            exact ⟨ret1 FIN.out.symm, Below.trans B (((Below.refl _ _).setCell hg1 _).setCell hg1 _)⟩
          · have hne : K (c1, c2) ≠ K (d1, d2) := fun h => he ((K_eq hc hd).1 h)
            have hq : (c1 == d1) = false ∨ (c1 = d1 ∧ (c2 == d2) = false) := eq_parts he
            clear he
            have HNE := hid hne
            clear hne
            rcases hq with hq | ⟨hq0, hq⟩
            · have cc := fun w' => RFirst_any (c1, c2) (d1, d2) w' hc hd
              simp only at cc
              by_cases hh39 : K (c1, c2) < K (d1, d2)
              · rw [decide_eq_true hh39] at cc
                have CC := hid cc
                have H39 := hid hh39
                clear cc hh39
                have k00 := X0.c0
                have k01 := X0.c1
                have f0 := X0.fr
                have k10 := X1.c0
                have k11 := X1.c1
                have f1 := X1.fr
                have k20 := X2.c0
                have k21 := X2.c1
                have f2 := X2.fr
                have k30 := X3.c0
                have k31 := X3.c1
                have f3 := X3.fr
                go_wp2_with fail
                refine (CC.out _).mono ?_
                rintro e w5 ⟨rfl, hb⟩
                clear CC
                clear k00 k01 f0 k10 k11 f1 k20 k21 f2 k30 k31 f3
                have Y0 := BX.bl (BX.oth (by omega) X0) hb
                have Y1 := BX.bl (BX.set d1 d2 X1) hb
                have Y2 := BX.bl (BX.oth (by omega) X2) hb
                have Y3 := BX.bl (BX.oth (by omega) X3) hb
                have B2 := Bl.trans (Below.trans B (((Below.refl _ _).setCell hg1 _).setCell hg1 _)) hb
                clear X0 X1 X2 X3 B hb
                have X0 := Y0
                have X1 := Y1
                have X2 := Y2
                have X3 := Y3
                have B := B2
                clear Y0 Y1 Y2 Y3 B2
                have FIN := hid (show shr (K (a1, a2)) (K (b1, b2)) (K (c1, c2)) (K (d1, d2)) = 2 by
                  have := H1.out; have := H25.out; have := H37.out; have := H38.out; have := H39.out; have := HNE.out
                  exact shr2 (by unfold over; omega))
                go_wp2_with fail
                go_ret
                exact ⟨ret1 FIN.out.symm, B⟩
              · rw [decide_eq_false hh39] at cc
                have CC := hid cc
                have H39 := hid hh39
                clear cc hh39
                have k00 := X0.c0
                have k01 := X0.c1
                have f0 := X0.fr
                have k10 := X1.c0
                have k11 := X1.c1
                have f1 := X1.fr
                have k20 := X2.c0
                have k21 := X2.c1
                have f2 := X2.fr
                have k30 := X3.c0
                have k31 := X3.c1
                have f3 := X3.fr
                go_wp2_with fail
                refine (CC.out _).mono ?_
                rintro e w5 ⟨rfl, hb⟩
                clear CC
                clear k00 k01 f0 k10 k11 f1 k20 k21 f2 k30 k31 f3
                have Y0 := BX.bl (BX.oth (by omega) X0) hb
                have Y1 := BX.bl (BX.set d1 d2 X1) hb
                have Y2 := BX.bl (BX.oth (by omega) X2) hb
                have Y3 := BX.bl (BX.oth (by omega) X3) hb
                have B2 := Bl.trans (Below.trans B (((Below.refl _ _).setCell hg1 _).setCell hg1 _)) hb
                clear X0 X1 X2 X3 B hb
                have X0 := Y0
                have X1 := Y1
                have X2 := Y2
                have X3 := Y3
                have B := B2
                clear Y0 Y1 Y2 Y3 B2
                have FIN := hid (show shr (K (a1, a2)) (K (b1, b2)) (K (c1, c2)) (K (d1, d2)) = 0 by
                  have := H1.out; have := H25.out; have := H37.out; have := H38.out; have := H39.out; have := HNE.out
                  exact shr0 (by unfold over; omega) (by unfold meets; omega))
                go_wp2_with fail
                go_ret
                exact ⟨ret1 FIN.out.symm, B⟩
            · have hq1 : (c1 == d1) = true := by rw [hq0]; exact beq_self_eq_true _
              clear hq0
              have cc := fun w' => RFirst_any (c1, c2) (d1, d2) w' hc hd
              simp only at cc
              by_cases hh40 : K (c1, c2) < K (d1, d2)
              · rw [decide_eq_true hh40] at cc
                have CC := hid cc
                have H40 := hid hh40
                clear cc hh40
                have k00 := X0.c0
                have k01 := X0.c1
                have f0 := X0.fr
                have k10 := X1.c0
                have k11 := X1.c1
                have f1 := X1.fr
                have k20 := X2.c0
                have k21 := X2.c1
                have f2 := X2.fr
                have k30 := X3.c0
                have k31 := X3.c1
                have f3 := X3.fr
                go_wp2_with fail
                refine (CC.out _).mono ?_
                rintro e w5 ⟨rfl, hb⟩
                clear CC
                clear k00 k01 f0 k10 k11 f1 k20 k21 f2 k30 k31 f3
                have Y0 := BX.bl (BX.oth (by omega) X0) hb
                have Y1 := BX.bl (BX.set d1 d2 X1) hb
                have Y2 := BX.bl (BX.oth (by omega) X2) hb
                have Y3 := BX.bl (BX.oth (by omega) X3) hb
                have B2 := Bl.trans (Below.trans B (((Below.refl _ _).setCell hg1 _).setCell hg1 _)) hb
                clear X0 X1 X2 X3 B hb
                have X0 := Y0
                have X1 := Y1
                have X2 := Y2
                have X3 := Y3
                have B := B2
                clear Y0 Y1 Y2 Y3 B2
                have FIN := hid (show shr (K (a1, a2)) (K (b1, b2)) (K (c1, c2)) (K (d1, d2)) = 2 by
                  have := H1.out; have := H25.out; have := H37.out; have := H38.out; have := H40.out; have := HNE.out
                  exact shr2 (by unfold over; omega))
                go_wp2_with fail
                go_ret
                exact ⟨ret1 FIN.out.symm, B⟩
              · rw [decide_eq_false hh40] at cc
                have CC := hid cc
                have H40 := hid hh40
                clear cc hh40
                have k00 := X0.c0
                have k01 := X0.c1
                have f0 := X0.fr
                have k10 := X1.c0
                have k11 := X1.c1
                have f1 := X1.fr
                have k20 := X2.c0
                have k21 := X2.c1
                have f2 := X2.fr
                have k30 := X3.c0
                have k31 := X3.c1
                have f3 := X3.fr
                go_wp2_with fail
                refine (CC.out _).mono ?_
                rintro e w5 ⟨rfl, hb⟩
                clear CC
                clear k00 k01 f0 k10 k11 f1 k20 k21 f2 k30 k31 f3
                have Y0 := BX.bl (BX.oth (by omega) X0) hb
                have Y1 := BX.bl (BX.set d1 d2 X1) hb
                have Y2 := BX.bl (BX.oth (by omega) X2) hb
                have Y3 := BX.bl (BX.oth (by omega) X3) hb
                have B2 := Bl.trans (Below.trans B (((Below.refl _ _).setCell hg1 _).setCell hg1 _)) hb
                clear X0 X1 X2 X3 B hb
                have X0 := Y0
                have X1 := Y1
                have X2 := Y2
                have X3 := Y3
                have B := B2
                clear Y0 Y1 Y2 Y3 B2
                have FIN := hid (show shr (K (a1, a2)) (K (b1, b2)) (K (c1, c2)) (K (d1, d2)) = 0 by
                  have := H1.out; have := H25.out; have := H37.out; have := H38.out; have := H40.out; have := HNE.out
                  exact shr0 (by unfold over; omega) (by unfold meets; omega))
                go_wp2_with fail
                go_ret
                exact ⟨ret1 FIN.out.symm, B⟩
        · rw [decide_eq_false hh38] at cc
          have CC := hid cc
          have H38 := hid hh38
          clear cc hh38
          have k00 := X0.c0
          have k01 := X0.c1
          have f0 := X0.fr
          have k10 := X1.c0
          have k11 := X1.c1
          have f1 := X1.fr
          have k20 := X2.c0
          have k21 := X2.c1
          have f2 := X2.fr
          have k30 := X3.c0
          have k31 := X3.c1
          have f3 := X3.fr
          go_wp2_with fail
          refine (CC.out _).mono ?_
          rintro e w4 ⟨rfl, hb⟩
          clear CC
          clear k00 k01 f0 k10 k11 f1 k20 k21 f2 k30 k31 f3
          have Y0 := BX.bl (BX.set c1 c2 X0) hb
          have Y1 := BX.bl (BX.oth (by omega) X1) hb
          have Y2 := BX.bl (BX.oth (by omega) X2) hb
          have Y3 := BX.bl (BX.oth (by omega) X3) hb
          have B2 := Bl.trans (Below.trans B (((Below.refl _ _).setCell hg0 _).setCell hg0 _)) hb
          clear X0 X1 X2 X3 B hb
          have X0 := Y0
          have X1 := Y1
          have X2 := Y2
          have X3 := Y3
          have B := B2
          clear Y0 Y1 Y2 Y3 B2
          by_cases he : (c1, c2) = (b1, b2)
          · have fin : shr (K (a1, a2)) (K (b1, b2)) (K (c1, c2)) (K (d1, d2)) = 1 := by
              have := H1.out; have := H25.out; have := H37.out; have := H38.out; have e0 := congrArg K he
              exact shr1 (by unfold over; omega) (by unfold meets; omega)
            have e1 : c1 = b1 := congrArg Prod.fst he
            have e2 : c2 = b2 := congrArg Prod.snd he
            clear he
            have FIN := hid fin
            clear fin
            have q1 : (c1 == b1) = true := by rw [e1]; exact beq_self_eq_true _
            have q2 : (c2 == b2) = true := by rw [e2]; exact beq_self_eq_true _
            clear e1 e2
            have k00 := X0.c0
            have k01 := X0.c1
            have f0 := X0.fr
            have k10 := X1.c0
            have k11 := X1.c1
            have f1 := X1.fr
            have k20 := X2.c0
            have k21 := X2.c1
            have f2 := X2.fr
            have k30 := X3.c0
            have k31 := X3.c1
            have f3 := X3.fr
            go_wp2_with fail
            go_ret
            exact ⟨ret1 FIN.out.symm, B⟩
          · have hne : K (c1, c2) ≠ K (b1, b2) := fun h => he ((K_eq hc hb).1 h)
            have hq : (c1 == b1) = false ∨ (c1 = b1 ∧ (c2 == b2) = false) := eq_parts he
            clear he
            have HNE := hid hne
            clear hne
            rcases hq with hq | ⟨hq0, hq⟩
            · have cc := fun w' => RFirst_any (c1, c2) (b1, b2) w' hc hb
              simp only at cc
              by_cases hh41 : K (c1, c2) < K (b1, b2)
              · rw [decide_eq_true hh41] at cc
                have CC := hid cc
                have H41 := hid hh41
                clear cc hh41
                have k00 := X0.c0
                have k01 := X0.c1
                have f0 := X0.fr
                have k10 := X1.c0
                have k11 := X1.c1
                have f1 := X1.fr
                have k20 := X2.c0
                have k21 := X2.c1
                have f2 := X2.fr
                have k30 := X3.c0
                have k31 := X3.c1
                have f3 := X3.fr
                go_wp2_with fail
                refine (CC.out _).mono ?_
                rintro e w5 ⟨rfl, hb⟩
                clear CC
                clear k00 k01 f0 k10 k11 f1 k20 k21 f2 k30 k31 f3
                have Y0 := BX.bl X0 hb
                have Y1 := BX.bl X1 hb
                have Y2 := BX.bl X2 hb
                have Y3 := BX.bl X3 hb
                have B2 := Bl.trans (Below.trans B (Below.refl _ _)) hb
                clear X0 X1 X2 X3 B hb
                have X0 := Y0
                have X1 := Y1
                have X2 := Y2
                have X3 := Y3
                have B := B2
                clear Y0 Y1 Y2 Y3 B2
                have FIN := hid (show shr (K (a1, a2)) (K (b1, b2)) (K (c1, c2)) (K (d1, d2)) = 2 by
                  have := H1.out; have := H25.out; have := H37.out; have := H38.out; have := H41.out; have := HNE.out
                  exact shr2 (by unfold over; omega))
                go_wp2_with fail
                go_ret
                exact ⟨ret1 FIN.out.symm, B⟩
              · rw [decide_eq_false hh41] at cc
                have CC := hid cc
                have H41 := hid hh41
                clear cc hh41
                have k00 := X0.c0
                have k01 := X0.c1
                have f0 := X0.fr
                have k10 := X1.c0
                have k11 := X1.c1
                have f1 := X1.fr
                have k20 := X2.c0
                have k21 := X2.c1
                have f2 := X2.fr
                have k30 := X3.c0
                have k31 := X3.c1
                have f3 := X3.fr
                go_wp2_with fail
                refine (CC.out _).mono ?_
                rintro e w5 ⟨rfl, hb⟩
                clear CC
                clear k00 k01 f0 k10 k11 f1 k20 k21 f2 k30 k31 f3
                have Y0 := BX.bl X0 hb
                have Y1 := BX.bl X1 hb
                have Y2 := BX.bl X2 hb
                have Y3 := BX.bl X3 hb
                have B2 := Bl.trans (Below.trans B (Below.refl _ _)) hb
                clear X0 X1 X2 X3 B hb
                have X0 := Y0
                have X1 := Y1
                have X2 := Y2
                have X3 := Y3
                have B := B2
                clear Y0 Y1 Y2 Y3 B2
                have FIN := hid (show shr (K (a1, a2)) (K (b1, b2)) (K (c1, c2)) (K (d1, d2)) = 0 by
                  have := H1.out; have := H25.out; have := H37.out; have := H38.out; have := H41.out; have := HNE.out
                  exact shr0 (by unfold over; omega) (by unfold meets; omega))
                go_wp2_with fail
                go_ret
                exact ⟨ret1 FIN.out.symm, B⟩
            · have hq1 : (c1 == b1) = true := by rw [hq0]; exact beq_self_eq_true _
              clear hq0
              have cc := fun w' => RFirst_any (c1, c2) (b1, b2) w' hc hb
              simp only at cc
              by_cases hh42 : K (c1, c2) < K (b1, b2)
              · rw [decide_eq_true hh42] at cc
                have CC := hid cc
                have H42 := hid hh42
                clear cc hh42
                have k00 := X0.c0
                have k01 := X0.c1
                have f0 := X0.fr
                have k10 := X1.c0
                have k11 := X1.c1
                have f1 := X1.fr
                have k20 := X2.c0
                have k21 := X2.c1
                have f2 := X2.fr
                have k30 := X3.c0
                have k31 := X3.c1
                have f3 := X3.fr
                go_wp2_with fail
                refine (CC.out _).mono ?_
                rintro e w5 ⟨rfl, hb⟩
                clear CC
                clear k00 k01 f0 k10 k11 f1 k20 k21 f2 k30 k31 f3
                have Y0 := BX.bl X0 hb
                have Y1 := BX.bl X1 hb
                have Y2 := BX.bl X2 hb
                have Y3 := BX.bl X3 hb
                have B2 := Bl.trans (Below.trans B (Below.refl _ _)) hb
                clear X0 X1 X2 X3 B hb
                have X0 := Y0
                have X1 := Y1
                have X2 := Y2
                have X3 := Y3
                have B := B2
                clear Y0 Y1 Y2 Y3 B2
                have FIN := hid (show shr (K (a1, a2)) (K (b1, b2)) (K (c1, c2)) (K (d1, d2)) = 2 by
                  have := H1.out; have := H25.out; have := H37.out; have := H38.out; have := H42.out; have := HNE.out
                  exact shr2 (by unfold over; omega))
                go_wp2_with fail
                go_ret
                exact ⟨ret1 FIN.out.symm, B⟩
              · rw [decide_eq_false hh42] at cc
                have CC := hid cc
                have H42 := hid hh42
                clear cc hh42
                have k00 := X0.c0
                have k01 := X0.c1
                have f0 := X0.fr
                have k10 := X1.c0
                have k11 := X1.c1
                have f1 := X1.fr
                have k20 := X2.c0
                have k21 := X2.c1
                have f2 := X2.fr
                have k30 := X3.c0
                have k31 := X3.c1
                have f3 := X3.fr
                go_wp2_with fail
                refine (CC.out _).mono ?_
                rintro e w5 ⟨rfl, hb⟩
                clear CC
                clear k00 k01 f0 k10 k11 f1 k20 k21 f2 k30 k31 f3
                have Y0 := BX.bl X0 hb
                have Y1 := BX.bl X1 hb
                have Y2 := BX.bl X2 hb
                have Y3 := BX.bl X3 hb
                have B2 := Bl.trans (Below.trans B (Below.refl _ _)) hb
                clear X0 X1 X2 X3 B hb
                have X0 := Y0
                have X1 := Y1
                have X2 := Y2
                have X3 := Y3
                have B := B2
                clear Y0 Y1 Y2 Y3 B2
                have FIN := hid (show shr (K (a1, a2)) (K (b1, b2)) (K (c1, c2)) (K (d1, d2)) = 0 by
                  have := H1.out; have := H25.out; have := H37.out; have := H38.out; have := H42.out; have := HNE.out
                  exact shr0 (by unfold over; omega) (by unfold meets; omega))
                go_wp2_with fail
                go_ret
                exact ⟨ret1 FIN.out.symm, B⟩
      · rw [decide_eq_false hh37] at cc
        have CC := hid cc
        have H37 := hid hh37
        clear cc hh37
        have k00 := X0.c0
        have k01 := X0.c1
        have f0 := X0.fr
        have k10 := X1.c0
        have k11 := X1.c1
        have f1 := X1.fr
        have k20 := X2.c0
        have k21 := X2.c1
        have f2 := X2.fr
        have k30 := X3.c0
        have k31 := X3.c1
        have f3 := X3.fr
        go_wp2_with fail
        refine (CC.out _).mono ?_
        rintro e w3 ⟨rfl, hb⟩
        clear CC
        clear k00 k01 f0 k10 k11 f1 k20 k21 f2 k30 k31 f3
        have Y0 := BX.bl X0 hb
        have Y1 := BX.bl X1 hb
        have Y2 := BX.bl X2 hb
        have Y3 := BX.bl X3 hb
        have B2 := Bl.trans (Below.trans B (Below.refl _ _)) hb
        clear X0 X1 X2 X3 B hb
        have X0 := Y0
        have X1 := Y1
        have X2 := Y2
        have X3 := Y3
        have B := B2
        clear Y0 Y1 Y2 Y3 B2
        have cc := fun w' => RFirst_any (d1, d2) (b1, b2) w' hd hb
        simp only at cc
        by_cases hh43 : K (d1, d2) < K (b1, b2)
        · rw [decide_eq_true hh43] at cc
          have CC := hid cc
          have H43 := hid hh43
          clear cc hh43
          have k00 := X0.c0
          have k01 := X0.c1
          have f0 := X0.fr
          have k10 := X1.c0
          have k11 := X1.c1
          have f1 := X1.fr
          have k20 := X2.c0
          have k21 := X2.c1
          have f2 := X2.fr
          have k30 := X3.c0
          have k31 := X3.c1
          have f3 := X3.fr
          go_wp2_with fail
          refine (CC.out _).mono ?_
          rintro e w4 ⟨rfl, hb⟩
          clear CC
          clear k00 k01 f0 k10 k11 f1 k20 k21 f2 k30 k31 f3
          have Y0 := BX.bl X0 hb
          have Y1 := BX.bl X1 hb
          have Y2 := BX.bl X2 hb
          have Y3 := BX.bl X3 hb
          have B2 := Bl.trans (Below.trans B (Below.refl _ _)) hb
          clear X0 X1 X2 X3 B hb
          have X0 := Y0
          have X1 := Y1
          have X2 := Y2
          have X3 := Y3
          have B := B2
          clear Y0 Y1 Y2 Y3 B2
          by_cases he : (a1, a2) = (d1, d2)
          · have fin : shr (K (a1, a2)) (K (b1, b2)) (K (c1, c2)) (K (d1, d2)) = 1 := by
              have := H1.out; have := H25.out; have := H37.out; have := H43.out; have e0 := congrArg K he
              exact shr1 (by unfold over; omega) (by unfold meets; omega)
            have e1 : a1 = d1 := congrArg Prod.fst he
            have e2 : a2 = d2 := congrArg Prod.snd he
            clear he
            have FIN := hid fin
            clear fin
            have q1 : (a1 == d1) = true := by rw [e1]; exact beq_self_eq_true _
            have q2 : (a2 == d2) = true := by rw [e2]; exact beq_self_eq_true _
            clear e1 e2
            have k00 := X0.c0
            have k01 := X0.c1
            have f0 := X0.fr
            have k10 := X1.c0
            have k11 := X1.c1
            have f1 := X1.fr
            have k20 := X2.c0
            have k21 := X2.c1
            have f2 := X2.fr
            have k30 := X3.c0
            have k31 := X3.c1
            have f3 := X3.fr
            go_wp2_with fail
            go_ret
            exact ⟨ret1 FIN.out.symm, Below.trans B (((Below.refl _ _).setCell hg1 _).setCell hg1 _)⟩
          · have hne : K (a1, a2) ≠ K (d1, d2) := fun h => he ((K_eq ha hd).1 h)
            have hq : (a1 == d1) = false ∨ (a1 = d1 ∧ (a2 == d2) = false) := eq_parts he
            clear he
            have HNE := hid hne
            clear hne
            rcases hq with hq | ⟨hq0, hq⟩
            · have cc := fun w' => RFirst_any (a1, a2) (d1, d2) w' ha hd
              simp only at cc
              by_cases hh44 : K (a1, a2) < K (d1, d2)
              · rw [decide_eq_true hh44] at cc
                have CC := hid cc
                have H44 := hid hh44
                clear cc hh44
                have k00 := X0.c0
                have k01 := X0.c1
                have f0 := X0.fr
                have k10 := X1.c0
                have k11 := X1.c1
                have f1 := X1.fr
                have k20 := X2.c0
                have k21 := X2.c1
                have f2 := X2.fr
                have k30 := X3.c0
                have k31 := X3.c1
                have f3 := X3.fr
                go_wp2_with fail
                refine (CC.out _).mono ?_
                rintro e w5 ⟨rfl, hb⟩
                clear CC
                clear k00 k01 f0 k10 k11 f1 k20 k21 f2 k30 k31 f3
                have Y0 := BX.bl (BX.oth (by omega) X0) hb
                have Y1 := BX.bl (BX.set d1 d2 X1) hb
                have Y2 := BX.bl (BX.oth (by omega) X2) hb
                have Y3 := BX.bl (BX.oth (by omega) X3) hb
                have B2 := Bl.trans (Below.trans B (((Below.refl _ _).setCell hg1 _).setCell hg1 _)) hb
                clear X0 X1 X2 X3 B hb
                have X0 := Y0
                have X1 := Y1
                have X2 := Y2
                have X3 := Y3
                have B := B2
                clear Y0 Y1 Y2 Y3 B2
                have FIN := hid (show shr (K (a1, a2)) (K (b1, b2)) (K (c1, c2)) (K (d1, d2)) = 2 by
                  have := H1.out; have := H25.out; have := H37.out; have := H43.out; have := H44.out; have := HNE.out
                  exact shr2 (by unfold over; omega))
                go_wp2_with fail
                go_ret
                exact ⟨ret1 FIN.out.symm, B⟩
              · rw [decide_eq_false hh44] at cc
                have CC := hid cc
                have H44 := hid hh44
                clear cc hh44
                have k00 := X0.c0
                have k01 := X0.c1
                have f0 := X0.fr
                have k10 := X1.c0
                have k11 := X1.c1
                have f1 := X1.fr
                have k20 := X2.c0
                have k21 := X2.c1
                have f2 := X2.fr
                have k30 := X3.c0
                have k31 := X3.c1
                have f3 := X3.fr
                go_wp2_with fail
                refine (CC.out _).mono ?_
                rintro e w5 ⟨rfl, hb⟩
                clear CC
                clear k00 k01 f0 k10 k11 f1 k20 k21 f2 k30 k31 f3
                have Y0 := BX.bl (BX.oth (by omega) X0) hb
                have Y1 := BX.bl (BX.set d1 d2 X1) hb
                have Y2 := BX.bl (BX.oth (by omega) X2) hb
                have Y3 := BX.bl (BX.oth (by omega) X3) hb
                have B2 := Bl.trans (Below.trans B (((Below.refl _ _).setCell hg1 _).setCell hg1 _)) hb
                clear X0 X1 X2 X3 B hb
                have X0 := Y0
                have X1 := Y1
                have X2 := Y2
                have X3 := Y3
                have B := B2
                clear Y0 Y1 Y2 Y3 B2
                have FIN := hid (show shr (K (a1, a2)) (K (b1, b2)) (K (c1, c2)) (K (d1, d2)) = 0 by
                  have := H1.out; have := H25.out; have := H37.out; have := H43.out; have := H44.out; have := HNE.out
                  exact shr0 (by unfold over; omega) (by unfold meets; omega))
                go_wp2_with fail
                go_ret
                exact ⟨ret1 FIN.out.symm, B⟩
            · have hq1 : (a1 == d1) = true := by rw [hq0]; exact beq_self_eq_true _
              clear hq0
              have cc := fun w' => RFirst_any (a1, a2) (d1, d2) w' ha hd
              simp only at cc
              by_cases hh45 : K (a1, a2) < K (d1, d2)
              · rw [decide_eq_true hh45] at cc
                have CC := hid cc
                have H45 := hid hh45
                clear cc hh45
                have k00 := X0.c0
                have k01 := X0.c1
                have f0 := X0.fr
                have k10 := X1.c0
                have k11 := X1.c1
                have f1 := X1.fr
                have k20 := X2.c0
                have k21 := X2.c1
                have f2 := X2.fr
                have k30 := X3.c0
                have k31 := X3.c1
                have f3 := X3.fr
                go_wp2_with fail
                refine (CC.out _).mono ?_
                rintro e w5 ⟨rfl, hb⟩
                clear CC
                clear k00 k01 f0 k10 k11 f1 k20 k21 f2 k30 k31 f3
                have Y0 := BX.bl (BX.oth (by omega) X0) hb
                have Y1 := BX.bl (BX.set d1 d2 X1) hb
                have Y2 := BX.bl (BX.oth (by omega) X2) hb
                have Y3 := BX.bl (BX.oth (by omega) X3) hb
                have B2 := Bl.trans (Below.trans B (((Below.refl _ _).setCell hg1 _).setCell hg1 _)) hb
                clear X0 X1 X2 X3 B hb
                have X0 := Y0
                have X1 := Y1
                have X2 := Y2
                have X3 := Y3
                have B := B2
                clear Y0 Y1 Y2 Y3 B2
                have FIN := hid (show shr (K (a1, a2)) (K (b1, b2)) (K (c1, c2)) (K (d1, d2)) = 2 by
                  have := H1.out; have := H25.out; have := H37.out; have := H43.out; have := H45.out; have := HNE.out
                  exact shr2 (by unfold over; omega))
                go_wp2_with fail
                go_ret
                exact ⟨ret1 FIN.out.symm, B⟩
              · rw [decide_eq_false hh45] at cc
                have CC := hid cc
                have H45 := hid hh45
                clear cc hh45
                have k00 := X0.c0
                have k01 := X0.c1
                have f0 := X0.fr
                have k10 := X1.c0
                have k11 := X1.c1
                have f1 := X1.fr
                have k20 := X2.c0
                have k21 := X2.c1
                have f2 := X2.fr
                have k30 := X3.c0
                have k31 := X3.c1
                have f3 := X3.fr
                go_wp2_with fail
                refine (CC.out _).mono ?_
                rintro e w5 ⟨rfl, hb⟩
                clear CC
                clear k00 k01 f0 k10 k11 f1 k20 k21 f2 k30 k31 f3
                have Y0 := BX.bl (BX.oth (by omega) X0) hb
                have Y1 := BX.bl (BX.set d1 d2 X1) hb
                have Y2 := BX.bl (BX.oth (by omega) X2) hb
                have Y3 := BX.bl (BX.oth (by omega) X3) hb
                have B2 := Bl.trans (Below.trans B (((Below.refl _ _).setCell hg1 _).setCell hg1 _)) hb
                clear X0 X1 X2 X3 B hb
                have X0 := Y0
                have X1 := Y1
                have X2 := Y2
                have X3 := Y3
                have B := B2
                clear Y0 Y1 Y2 Y3 B2
                have FIN := hid (show shr (K (a1, a2)) (K (b1, b2)) (K (c1, c2)) (K (d1, d2)) = 0 by
                  have := H1.out; have := H25.out; have := H37.out; have := H43.out; have := H45.out; have := HNE.out
                  exact shr0 (by unfold over; omega) (by unfold meets; omega))
                go_wp2_with fail
                go_ret
                exact ⟨ret1 FIN.out.symm, B⟩
        · rw [decide_eq_false hh43] at cc
          have CC := hid cc
          have H43 := hid hh43
          clear cc hh43
          have k00 := X0.c0
          have k01 := X0.c1
          have f0 := X0.fr
          have k10 := X1.c0
          have k11 := X1.c1
          have f1 := X1.fr
          have k20 := X2.c0
          have k21 := X2.c1
          have f2 := X2.fr
          have k30 := X3.c0
          have k31 := X3.c1
          have f3 := X3.fr
          go_wp2_with fail
          refine (CC.out _).mono ?_
          rintro e w4 ⟨rfl, hb⟩
          clear CC
          clear k00 k01 f0 k10 k11 f1 k20 k21 f2 k30 k31 f3
          have Y0 := BX.bl X0 hb
          have Y1 := BX.bl X1 hb
          have Y2 := BX.bl X2 hb
          have Y3 := BX.bl X3 hb
          have B2 := Bl.trans (Below.trans B (Below.refl _ _)) hb
          clear X0 X1 X2 X3 B hb
          have X0 := Y0
          have X1 := Y1
          have X2 := Y2
          have X3 := Y3
          have B := B2
          clear Y0 Y1 Y2 Y3 B2
          by_cases he : (a1, a2) = (b1, b2)
          · have fin : shr (K (a1, a2)) (K (b1, b2)) (K (c1, c2)) (K (d1, d2)) = 1 := by
              have := H1.out; have := H25.out; have := H37.out; have := H43.out; have e0 := congrArg K he
              exact shr1 (by unfold over; omega) (by unfold meets; omega)
            have e1 : a1 = b1 := congrArg Prod.fst he
            have e2 : a2 = b2 := congrArg Prod.snd he
            clear he
            have FIN := hid fin
            clear fin
            have q1 : (a1 == b1) = true := by rw [e1]; exact beq_self_eq_true _
            have q2 : (a2 == b2) = true := by rw [e2]; exact beq_self_eq_true _
            clear e1 e2
            have k00 := X0.c0
            have k01 := X0.c1
            have f0 := X0.fr
            have k10 := X1.c0
            have k11 := X1.c1
            have f1 := X1.fr
            have k20 := X2.c0
            have k21 := X2.c1
            have f2 := X2.fr
            have k30 := X3.c0
            have k31 := X3.c1
            have f3 := X3.fr
            go_wp2_with fail
            go_ret
            exact ⟨ret1 FIN.out.symm, B⟩
          · have hne : K (a1, a2) ≠ K (b1, b2) := fun h => he ((K_eq ha hb).1 h)
            have hq : (a1 == b1) = false ∨ (a1 = b1 ∧ (a2 == b2) = false) := eq_parts he
            clear he
            have HNE := hid hne
            clear hne
            rcases hq with hq | ⟨hq0, hq⟩
            · have cc := fun w' => RFirst_any (a1, a2) (b1, b2) w' ha hb
              simp only at cc
              by_cases hh46 : K (a1, a2) < K (b1, b2)
              · rw [decide_eq_true hh46] at cc
                have CC := hid cc
                have H46 := hid hh46
                clear cc hh46
                have k00 := X0.c0
                have k01 := X0.c1
                have f0 := X0.fr
                have k10 := X1.c0
                have k11 := X1.c1
                have f1 := X1.fr
                have k20 := X2.c0
                have k21 := X2.c1
                have f2 := X2.fr
                have k30 := X3.c0
                have k31 := X3.c1
                have f3 := X3.fr
                go_wp2_with fail
                refine (CC.out _).mono ?_
                rintro e w5 ⟨rfl, hb⟩
                clear CC
                clear k00 k01 f0 k10 k11 f1 k20 k21 f2 k30 k31 f3
                have Y0 := BX.bl X0 hb
                have Y1 := BX.bl X1 hb
                have Y2 := BX.bl X2 hb
                have Y3 := BX.bl X3 hb
                have B2 := Bl.trans (Below.trans B (Below.refl _ _)) hb
                clear X0 X1 X2 X3 B hb
                have X0 := Y0
                have X1 := Y1
                have X2 := Y2
                have X3 := Y3
                have B := B2
                clear Y0 Y1 Y2 Y3 B2
                have FIN := hid (show shr (K (a1, a2)) (K (b1, b2)) (K (c1, c2)) (K (d1, d2)) = 2 by
                  have := H1.out; have := H25.out; have := H37.out; have := H43.out; have := H46.out; have := HNE.out
                  exact shr2 (by unfold over; omega))
                go_wp2_with fail
                go_ret
                exact ⟨ret1 FIN.out.symm, B⟩
              · rw [decide_eq_false hh46] at cc
                have CC := hid cc
                have H46 := hid hh46
                clear cc hh46
                have k00 := X0.c0
                have k01 := X0.c1
                have f0 := X0.fr
                have k10 := X1.c0
                have k11 := X1.c1
                have f1 := X1.fr
                have k20 := X2.c0
                have k21 := X2.c1
                have f2 := X2.fr
                have k30 := X3.c0
                have k31 := X3.c1
                have f3 := X3.fr
                go_wp2_with fail
                refine (CC.out _).mono ?_
                rintro e w5 ⟨rfl, hb⟩
                clear CC
                clear k00 k01 f0 k10 k11 f1 k20 k21 f2 k30 k31 f3
                have Y0 := BX.bl X0 hb
                have Y1 := BX.bl X1 hb
                have Y2 := BX.bl X2 hb
                have Y3 := BX.bl X3 hb
                have B2 := Bl.trans (Below.trans B (Below.refl _ _)) hb
                clear X0 X1 X2 X3 B hb
                have X0 := Y0
                have X1 := Y1
                have X2 := Y2
                have X3 := Y3
                have B := B2
                clear Y0 Y1 Y2 Y3 B2
                have FIN := hid (show shr (K (a1, a2)) (K (b1, b2)) (K (c1, c2)) (K (d1, d2)) = 0 by
                  have := H1.out; have := H25.out; have := H37.out; have := H43.out; have := H46.out; have := HNE.out
                  exact shr0 (by unfold over; omega) (by unfold meets; omega))
                go_wp2_with fail
                go_ret
                exact ⟨ret1 FIN.out.symm, B⟩
            · have hq1 : (a1 == b1) = true := by rw [hq0]; exact beq_self_eq_true _
              clear hq0
              have cc := fun w' => RFirst_any (a1, a2) (b1, b2) w' ha hb
              simp only at cc
              by_cases hh47 : K (a1, a2) < K (b1, b2)
              · rw [decide_eq_true hh47] at cc
                have CC := hid cc
                have H47 := hid hh47
                clear cc hh47
                have k00 := X0.c0
                have k01 := X0.c1
                have f0 := X0.fr
                have k10 := X1.c0
                have k11 := X1.c1
                have f1 := X1.fr
                have k20 := X2.c0
                have k21 := X2.c1
                have f2 := X2.fr
                have k30 := X3.c0
                have k31 := X3.c1
                have f3 := X3.fr
                go_wp2_with fail
                refine (CC.out _).mono ?_
                rintro e w5 ⟨rfl, hb⟩
                clear CC
                clear k00 k01 f0 k10 k11 f1 k20 k21 f2 k30 k31 f3
                have Y0 := BX.bl X0 hb
                have Y1 := BX.bl X1 hb
                have Y2 := BX.bl X2 hb
                have Y3 := BX.bl X3 hb
                have B2 := Bl.trans (Below.trans B (Below.refl _ _)) hb
                clear X0 X1 X2 X3 B hb
                have X0 := Y0
                have X1 := Y1
                have X2 := Y2
                have X3 := Y3
                have B := B2
                clear Y0 Y1 Y2 Y3 B2
                have FIN := hid (show shr (K (a1, a2)) (K (b1, b2)) (K (c1, c2)) (K (d1, d2)) = 2 by
                  have := H1.out; have := H25.out; have := H37.out; have := H43.out; have := H47.out; have := HNE.out
                  exact shr2 (by unfold over; omega))
                go_wp2_with fail
                go_ret
                exact ⟨ret1 FIN.out.symm, B⟩
              · rw [decide_eq_false hh47] at cc
                have CC := hid cc
                have H47 := hid hh47
                clear cc hh47
                have k00 := X0.c0
                have k01 := X0.c1
                have f0 := X0.fr
                have k10 := X1.c0
                have k11 := X1.c1
                have f1 := X1.fr
                have k20 := X2.c0
                have k21 := X2.c1
                have f2 := X2.fr
                have k30 := X3.c0
                have k31 := X3.c1
                have f3 := X3.fr
                go_wp2_with fail
                refine (CC.out _).mono ?_
                rintro e w5 ⟨rfl, hb⟩
                clear CC
                clear k00 k01 f0 k10 k11 f1 k20 k21 f2 k30 k31 f3
                have Y0 := BX.bl X0 hb
                have Y1 := BX.bl X1 hb
                have Y2 := BX.bl X2 hb
                have Y3 := BX.bl X3 hb
                have B2 := Bl.trans (Below.trans B (Below.refl _ _)) hb
                clear X0 X1 X2 X3 B hb
                have X0 := Y0
                have X1 := Y1
                have X2 := Y2
                have X3 := Y3
                have B := B2
                clear Y0 Y1 Y2 Y3 B2
                have FIN := hid (show shr (K (a1, a2)) (K (b1, b2)) (K (c1, c2)) (K (d1, d2)) = 0 by
                  have := H1.out; have := H25.out; have := H37.out; have := H43.out; have := H47.out; have := HNE.out
                  exact shr0 (by unfold over; omega) (by unfold meets; omega))
                go_wp2_with fail
                go_ret
                exact ⟨ret1 FIN.out.symm, B⟩
end Go.Proofs.Ytjdkgndecnhokaa.Geom
