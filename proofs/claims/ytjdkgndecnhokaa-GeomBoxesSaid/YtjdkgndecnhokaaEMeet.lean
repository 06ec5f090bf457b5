/- Contract of the reference of geom: Meet. -/
import Derived.Test.YtjdkgndecnhokaaELess2
namespace Go.Proofs.Ytjdkgndecnhokaa.Geom
open Go.RowKit
open Go.Proofs.Ytjdkgndecnhokaa.Wire
set_option linter.unusedVariables false

theorem eqlP (x1 x2 y1 y2 : Int) (w : World) : (binOp .eql 23 (.agg #[.int .i64 x1, .int .i64 x2]) (.agg #[.int .i64 y1, .int .i64 y2])).run Try.prog w = .ok (.bool (decide ((x1, x2) = (y1, y2)))) w := by
  have u3 := Try.underlying3
  have a3 := Try.isAgg3
  have z3 := Try.sizeOf3
  have hS : Try.prog.underlying 23 = some (.struct (Try.prog.fieldsOf 23)) := by kernel_rfl
  have hp : Try.prog.stoodInHeld 23 = false := by kernel_rfl
  rw [run_eql_struct, show (10000 : Nat) = 9999 + 1 from rfl, run_equalIn_agg w 9999 23 _ _ hS hp]
  simp only [Program.fieldsOf, Try.underlying23]
  go_simp
  by_cases h1 : x1 = y1 <;> by_cases h2 : x2 = y2 <;> simp [h1, h2]
theorem neqP (x1 x2 y1 y2 : Int) (w : World) : (binOp .neq 23 (.agg #[.int .i64 x1, .int .i64 x2]) (.agg #[.int .i64 y1, .int .i64 y2])).run Try.prog w = .ok (.bool (!decide ((x1, x2) = (y1, y2)))) w := by
  have u3 := Try.underlying3
  have a3 := Try.isAgg3
  have z3 := Try.sizeOf3
  have hS : Try.prog.underlying 23 = some (.struct (Try.prog.fieldsOf 23)) := by kernel_rfl
  have hp : Try.prog.stoodInHeld 23 = false := by kernel_rfl
  rw [run_neq_struct, show (10000 : Nat) = 9999 + 1 from rfl, run_equalIn_agg w 9999 23 _ _ hS hp]
  simp only [Program.fieldsOf, Try.underlying23]
  go_simp
  by_cases h1 : x1 = y1 <;> by_cases h2 : x2 = y2 <;> simp [h1, h2]
theorem eql_no {x1 x2 y1 y2 : Int} (h : ¬ (x1, x2) = (y1, y2)) (w : World) : (binOp .eql 23 (.agg #[.int .i64 x1, .int .i64 x2]) (.agg #[.int .i64 y1, .int .i64 y2])).run Try.prog w = .ok (.bool false) w := by rw [eqlP, decide_eq_false h]
theorem neq_yes {x1 x2 y1 y2 : Int} (h : ¬ (x1, x2) = (y1, y2)) (w : World) : (binOp .neq 23 (.agg #[.int .i64 x1, .int .i64 x2]) (.agg #[.int .i64 y1, .int .i64 y2])).run Try.prog w = .ok (.bool true) w := by rw [neqP, decide_eq_false h]; rfl

-- MEET
set_option maxHeartbeats 8000000 in
theorem meet1z (w : World) (V N P0 P1 P2 P3 S' T SH : Int) (a1 a2 b1 b2 c1 c2 d1 d2 : Int) (qab : ∀ w', (binOp .eql 23 (.agg #[.int .i64 a1, .int .i64 a2]) (.agg #[.int .i64 b1, .int .i64 b2])).run Try.prog w' = .ok (.bool false) w')
    (N1 : Hid (∀ (w' : World) (T' : TypeId) (g : Nat), g = w'.heap.size → Calls Try.prog 22 #[.slice (some ⟨g, 0, none⟩) 4 4] (w'.alloc (.cells #[.int .i64 a1, .int .i64 a2, .int .i64 b1, .int .i64 b2, .int .i64 c1, .int .i64 c2, .int .i64 d1, .int .i64 d2] T')) fun e w'' => e = .returned (.bool true) ∧ (w'.alloc (.cells #[.int .i64 a1, .int .i64 a2, .int .i64 b1, .int .i64 b2, .int .i64 c1, .int .i64 c2, .int .i64 d1, .int .i64 d2] T')) = w''))
    (C0 : Hid (∀ w', Calls Try.prog 34 #[.agg #[.int .i64 a1, .int .i64 a2], .agg #[.int .i64 b1, .int .i64 b2], .agg #[.int .i64 c1, .int .i64 c2], .agg #[.int .i64 d1, .int .i64 d2]] w' fun e w'' => e = .returned (.int .i64 N) ∧ Bl w' w''))
    (C1 : Hid (∀ w', Calls Try.prog 34 #[.agg #[.int .i64 a1, .int .i64 a2], .agg #[.int .i64 b1, .int .i64 b2], .agg #[.int .i64 a1, .int .i64 a2], .agg #[.int .i64 c1, .int .i64 c2]] w' fun e w'' => e = .returned (.int .i64 P0) ∧ Bl w' w''))
    (C2 : Hid (∀ w', Calls Try.prog 34 #[.agg #[.int .i64 a1, .int .i64 a2], .agg #[.int .i64 b1, .int .i64 b2], .agg #[.int .i64 a1, .int .i64 a2], .agg #[.int .i64 d1, .int .i64 d2]] w' fun e w'' => e = .returned (.int .i64 P1) ∧ Bl w' w''))
    (C3 : Hid (∀ w', Calls Try.prog 34 #[.agg #[.int .i64 c1, .int .i64 c2], .agg #[.int .i64 d1, .int .i64 d2], .agg #[.int .i64 c1, .int .i64 c2], .agg #[.int .i64 a1, .int .i64 a2]] w' fun e w'' => e = .returned (.int .i64 P2) ∧ Bl w' w''))
    (C4 : Hid (∀ w', Calls Try.prog 34 #[.agg #[.int .i64 c1, .int .i64 c2], .agg #[.int .i64 d1, .int .i64 d2], .agg #[.int .i64 c1, .int .i64 c2], .agg #[.int .i64 b1, .int .i64 b2]] w' fun e w'' => e = .returned (.int .i64 P3) ∧ Bl w' w''))
    (CS : Hid (∀ w', Calls Try.prog 39 #[.agg #[.int .i64 a1, .int .i64 a2], .agg #[.int .i64 b1, .int .i64 b2], .agg #[.int .i64 c1, .int .i64 c2], .agg #[.int .i64 d1, .int .i64 d2]] w' fun e w'' => e = .returned (.int .i64 SH) ∧ Bl w' w''))
    (MT : Hid (V = if N = 0 then (if P0 = 0 ∧ P1 = 0 ∧ P2 = 0 ∧ P3 = 0 then SH else 0) else if in01 N S' ∧ in01 N T then 1 else 0)) (hz : N = 0) :
    Calls Try.prog 18 #[.agg #[.int .i64 a1, .int .i64 a2], .agg #[.int .i64 b1, .int .i64 b2], .agg #[.int .i64 c1, .int .i64 c2], .agg #[.int .i64 d1, .int .i64 d2]] w fun e w' => e = .returned (.int .i64 V) ∧ Bl w w' := by
  by_cases z0 : P0 = 0
  · by_cases z1 : P1 = 0
    · by_cases z2 : P2 = 0
      · by_cases z3 : P3 = 0
        · have FIN := hid (show V = SH by rw [MT.out, if_pos hz, if_pos ⟨z0, z1, z2, z3⟩])
          subst hz
          subst z0
          subst z1
          subst z2
          subst z3
          go_enter Try.func18, Try.ntmps18
          go_wp2_with fail
          refine (N1.out _ _ _ (by simp)).mono ?_
          rintro e w1 ⟨rfl, hw⟩
          have B : Bl w w1 := by rw [← hw]; exact (((((Bl.refl w).alloc _).alloc _).alloc _).alloc _).alloc _
          obtain ⟨X0, X1, X2, X3⟩ := box4 (show Bl _ w1 by rw [← hw]; exact (Bl.refl _).alloc _)
          clear hw
          have k00 := X0.c0
          have k01 := X0.c1
          have k10 := X1.c0
          have k11 := X1.c1
          have k20 := X2.c0
          have k21 := X2.c1
          have k30 := X3.c0
          have k31 := X3.c1
          go_wp2_with fail
          refine ((C0).out _).mono ?_
          rintro e w2 ⟨rfl, hb⟩
          clear k00 k01 k10 k11 k20 k21 k30 k31
          have Y0 := BX.bl X0 hb
          have Y1 := BX.bl X1 hb
          have Y2 := BX.bl X2 hb
          have Y3 := BX.bl X3 hb
          have B2 := Bl.trans B hb
          clear X0 X1 X2 X3 B hb
          have X0 := Y0
          have X1 := Y1
          have X2 := Y2
          have X3 := Y3
          have B := B2
          clear Y0 Y1 Y2 Y3 B2
          have k00 := X0.c0
          have k01 := X0.c1
          have k10 := X1.c0
          have k11 := X1.c1
          have k20 := X2.c0
          have k21 := X2.c1
          have k30 := X3.c0
          have k31 := X3.c1
          go_wp2_with fail
          refine ((C1).out _).mono ?_
          rintro e w2 ⟨rfl, hb⟩
          clear k00 k01 k10 k11 k20 k21 k30 k31
          have Y0 := BX.bl X0 hb
          have Y1 := BX.bl X1 hb
          have Y2 := BX.bl X2 hb
          have Y3 := BX.bl X3 hb
          have B2 := Bl.trans B hb
          clear X0 X1 X2 X3 B hb
          have X0 := Y0
          have X1 := Y1
          have X2 := Y2
          have X3 := Y3
          have B := B2
          clear Y0 Y1 Y2 Y3 B2
          have k00 := X0.c0
          have k01 := X0.c1
          have k10 := X1.c0
          have k11 := X1.c1
          have k20 := X2.c0
          have k21 := X2.c1
          have k30 := X3.c0
          have k31 := X3.c1
          go_wp2_with fail
          refine ((C2).out _).mono ?_
          rintro e w2 ⟨rfl, hb⟩
          clear k00 k01 k10 k11 k20 k21 k30 k31
          have Y0 := BX.bl X0 hb
          have Y1 := BX.bl X1 hb
          have Y2 := BX.bl X2 hb
          have Y3 := BX.bl X3 hb
          have B2 := Bl.trans B hb
          clear X0 X1 X2 X3 B hb
          have X0 := Y0
          have X1 := Y1
          have X2 := Y2
          have X3 := Y3
          have B := B2
          clear Y0 Y1 Y2 Y3 B2
          have k00 := X0.c0
          have k01 := X0.c1
          have k10 := X1.c0
          have k11 := X1.c1
          have k20 := X2.c0
          have k21 := X2.c1
          have k30 := X3.c0
          have k31 := X3.c1
          go_wp2_with fail
          refine ((C3).out _).mono ?_
          rintro e w2 ⟨rfl, hb⟩
          clear k00 k01 k10 k11 k20 k21 k30 k31
          have Y0 := BX.bl X0 hb
          have Y1 := BX.bl X1 hb
          have Y2 := BX.bl X2 hb
          have Y3 := BX.bl X3 hb
          have B2 := Bl.trans B hb
          clear X0 X1 X2 X3 B hb
          have X0 := Y0
          have X1 := Y1
          have X2 := Y2
          have X3 := Y3
          have B := B2
          clear Y0 Y1 Y2 Y3 B2
          have k00 := X0.c0
          have k01 := X0.c1
          have k10 := X1.c0
          have k11 := X1.c1
          have k20 := X2.c0
          have k21 := X2.c1
          have k30 := X3.c0
          have k31 := X3.c1
          go_wp2_with fail
          refine ((C4).out _).mono ?_
          rintro e w2 ⟨rfl, hb⟩
          clear k00 k01 k10 k11 k20 k21 k30 k31
          have Y0 := BX.bl X0 hb
          have Y1 := BX.bl X1 hb
          have Y2 := BX.bl X2 hb
          have Y3 := BX.bl X3 hb
          have B2 := Bl.trans B hb
          clear X0 X1 X2 X3 B hb
          have X0 := Y0
          have X1 := Y1
          have X2 := Y2
          have X3 := Y3
          have B := B2
          clear Y0 Y1 Y2 Y3 B2
          have k00 := X0.c0
          have k01 := X0.c1
          have k10 := X1.c0
          have k11 := X1.c1
          have k20 := X2.c0
          have k21 := X2.c1
          have k30 := X3.c0
          have k31 := X3.c1
          go_wp2_with fail
          refine ((CS).out _).mono ?_
          rintro e w2 ⟨rfl, hb⟩
          have B := Bl.trans B hb
          go_wp2_with fail
          go_ret
          exact ⟨ret1 FIN.out.symm, B⟩
        · have FIN := hid (show V = 0 by rw [MT.out, if_pos hz, if_neg (fun h => z3 h.2.2.2)])
          have tz : (P3 == 0) = false := beq_eq_false_iff_ne.2 z3
          subst hz
          subst z0
          subst z1
          subst z2
          go_enter Try.func18, Try.ntmps18
          go_wp2_with fail
          refine (N1.out _ _ _ (by simp)).mono ?_
          rintro e w1 ⟨rfl, hw⟩
          have B : Bl w w1 := by rw [← hw]; exact (((((Bl.refl w).alloc _).alloc _).alloc _).alloc _).alloc _
          obtain ⟨X0, X1, X2, X3⟩ := box4 (show Bl _ w1 by rw [← hw]; exact (Bl.refl _).alloc _)
          clear hw
          have k00 := X0.c0
          have k01 := X0.c1
          have k10 := X1.c0
          have k11 := X1.c1
          have k20 := X2.c0
          have k21 := X2.c1
          have k30 := X3.c0
          have k31 := X3.c1
          go_wp2_with fail
          refine ((C0).out _).mono ?_
          rintro e w2 ⟨rfl, hb⟩
          clear k00 k01 k10 k11 k20 k21 k30 k31
          have Y0 := BX.bl X0 hb
          have Y1 := BX.bl X1 hb
          have Y2 := BX.bl X2 hb
          have Y3 := BX.bl X3 hb
          have B2 := Bl.trans B hb
          clear X0 X1 X2 X3 B hb
          have X0 := Y0
          have X1 := Y1
          have X2 := Y2
          have X3 := Y3
          have B := B2
          clear Y0 Y1 Y2 Y3 B2
          have k00 := X0.c0
          have k01 := X0.c1
          have k10 := X1.c0
          have k11 := X1.c1
          have k20 := X2.c0
          have k21 := X2.c1
          have k30 := X3.c0
          have k31 := X3.c1
          go_wp2_with fail
          refine ((C1).out _).mono ?_
          rintro e w2 ⟨rfl, hb⟩
          clear k00 k01 k10 k11 k20 k21 k30 k31
          have Y0 := BX.bl X0 hb
          have Y1 := BX.bl X1 hb
          have Y2 := BX.bl X2 hb
          have Y3 := BX.bl X3 hb
          have B2 := Bl.trans B hb
          clear X0 X1 X2 X3 B hb
          have X0 := Y0
          have X1 := Y1
          have X2 := Y2
          have X3 := Y3
          have B := B2
          clear Y0 Y1 Y2 Y3 B2
          have k00 := X0.c0
          have k01 := X0.c1
          have k10 := X1.c0
          have k11 := X1.c1
          have k20 := X2.c0
          have k21 := X2.c1
          have k30 := X3.c0
          have k31 := X3.c1
          go_wp2_with fail
          refine ((C2).out _).mono ?_
          rintro e w2 ⟨rfl, hb⟩
          clear k00 k01 k10 k11 k20 k21 k30 k31
          have Y0 := BX.bl X0 hb
          have Y1 := BX.bl X1 hb
          have Y2 := BX.bl X2 hb
          have Y3 := BX.bl X3 hb
          have B2 := Bl.trans B hb
          clear X0 X1 X2 X3 B hb
          have X0 := Y0
          have X1 := Y1
          have X2 := Y2
          have X3 := Y3
          have B := B2
          clear Y0 Y1 Y2 Y3 B2
          have k00 := X0.c0
          have k01 := X0.c1
          have k10 := X1.c0
          have k11 := X1.c1
          have k20 := X2.c0
          have k21 := X2.c1
          have k30 := X3.c0
          have k31 := X3.c1
          go_wp2_with fail
          refine ((C3).out _).mono ?_
          rintro e w2 ⟨rfl, hb⟩
          clear k00 k01 k10 k11 k20 k21 k30 k31
          have Y0 := BX.bl X0 hb
          have Y1 := BX.bl X1 hb
          have Y2 := BX.bl X2 hb
          have Y3 := BX.bl X3 hb
          have B2 := Bl.trans B hb
          clear X0 X1 X2 X3 B hb
          have X0 := Y0
          have X1 := Y1
          have X2 := Y2
          have X3 := Y3
          have B := B2
          clear Y0 Y1 Y2 Y3 B2
          have k00 := X0.c0
          have k01 := X0.c1
          have k10 := X1.c0
          have k11 := X1.c1
          have k20 := X2.c0
          have k21 := X2.c1
          have k30 := X3.c0
          have k31 := X3.c1
          go_wp2_with fail
          refine ((C4).out _).mono ?_
          rintro e w2 ⟨rfl, hb⟩
          clear k00 k01 k10 k11 k20 k21 k30 k31
          have Y0 := BX.bl X0 hb
          have Y1 := BX.bl X1 hb
          have Y2 := BX.bl X2 hb
          have Y3 := BX.bl X3 hb
          have B2 := Bl.trans B hb
          clear X0 X1 X2 X3 B hb
          have X0 := Y0
          have X1 := Y1
          have X2 := Y2
          have X3 := Y3
          have B := B2
          clear Y0 Y1 Y2 Y3 B2
          have k00 := X0.c0
          have k01 := X0.c1
          have k10 := X1.c0
          have k11 := X1.c1
          have k20 := X2.c0
          have k21 := X2.c1
          have k30 := X3.c0
          have k31 := X3.c1
          go_wp2_with fail
          go_ret
          exact ⟨ret1 FIN.out.symm, B⟩
      · have FIN := hid (show V = 0 by rw [MT.out, if_pos hz, if_neg (fun h => z2 h.2.2.1)])
        have tz : (P2 == 0) = false := beq_eq_false_iff_ne.2 z2
        subst hz
        subst z0
        subst z1
        go_enter Try.func18, Try.ntmps18
        go_wp2_with fail
        refine (N1.out _ _ _ (by simp)).mono ?_
        rintro e w1 ⟨rfl, hw⟩
        have B : Bl w w1 := by rw [← hw]; exact (((((Bl.refl w).alloc _).alloc _).alloc _).alloc _).alloc _
        obtain ⟨X0, X1, X2, X3⟩ := box4 (show Bl _ w1 by rw [← hw]; exact (Bl.refl _).alloc _)
        clear hw
        have k00 := X0.c0
        have k01 := X0.c1
        have k10 := X1.c0
        have k11 := X1.c1
        have k20 := X2.c0
        have k21 := X2.c1
        have k30 := X3.c0
        have k31 := X3.c1
        go_wp2_with fail
        refine ((C0).out _).mono ?_
        rintro e w2 ⟨rfl, hb⟩
        clear k00 k01 k10 k11 k20 k21 k30 k31
        have Y0 := BX.bl X0 hb
        have Y1 := BX.bl X1 hb
        have Y2 := BX.bl X2 hb
        have Y3 := BX.bl X3 hb
        have B2 := Bl.trans B hb
        clear X0 X1 X2 X3 B hb
        have X0 := Y0
        have X1 := Y1
        have X2 := Y2
        have X3 := Y3
        have B := B2
        clear Y0 Y1 Y2 Y3 B2
        have k00 := X0.c0
        have k01 := X0.c1
        have k10 := X1.c0
        have k11 := X1.c1
        have k20 := X2.c0
        have k21 := X2.c1
        have k30 := X3.c0
        have k31 := X3.c1
        go_wp2_with fail
        refine ((C1).out _).mono ?_
        rintro e w2 ⟨rfl, hb⟩
        clear k00 k01 k10 k11 k20 k21 k30 k31
        have Y0 := BX.bl X0 hb
        have Y1 := BX.bl X1 hb
        have Y2 := BX.bl X2 hb
        have Y3 := BX.bl X3 hb
        have B2 := Bl.trans B hb
        clear X0 X1 X2 X3 B hb
        have X0 := Y0
        have X1 := Y1
        have X2 := Y2
        have X3 := Y3
        have B := B2
        clear Y0 Y1 Y2 Y3 B2
        have k00 := X0.c0
        have k01 := X0.c1
        have k10 := X1.c0
        have k11 := X1.c1
        have k20 := X2.c0
        have k21 := X2.c1
        have k30 := X3.c0
        have k31 := X3.c1
        go_wp2_with fail
        refine ((C2).out _).mono ?_
        rintro e w2 ⟨rfl, hb⟩
        clear k00 k01 k10 k11 k20 k21 k30 k31
        have Y0 := BX.bl X0 hb
        have Y1 := BX.bl X1 hb
        have Y2 := BX.bl X2 hb
        have Y3 := BX.bl X3 hb
        have B2 := Bl.trans B hb
        clear X0 X1 X2 X3 B hb
        have X0 := Y0
        have X1 := Y1
        have X2 := Y2
        have X3 := Y3
        have B := B2
        clear Y0 Y1 Y2 Y3 B2
        have k00 := X0.c0
        have k01 := X0.c1
        have k10 := X1.c0
        have k11 := X1.c1
        have k20 := X2.c0
        have k21 := X2.c1
        have k30 := X3.c0
        have k31 := X3.c1
        go_wp2_with fail
        refine ((C3).out _).mono ?_
        rintro e w2 ⟨rfl, hb⟩
        clear k00 k01 k10 k11 k20 k21 k30 k31
        have Y0 := BX.bl X0 hb
        have Y1 := BX.bl X1 hb
        have Y2 := BX.bl X2 hb
        have Y3 := BX.bl X3 hb
        have B2 := Bl.trans B hb
        clear X0 X1 X2 X3 B hb
        have X0 := Y0
        have X1 := Y1
        have X2 := Y2
        have X3 := Y3
        have B := B2
        clear Y0 Y1 Y2 Y3 B2
        have k00 := X0.c0
        have k01 := X0.c1
        have k10 := X1.c0
        have k11 := X1.c1
        have k20 := X2.c0
        have k21 := X2.c1
        have k30 := X3.c0
        have k31 := X3.c1
        go_wp2_with fail
        go_ret
        exact ⟨ret1 FIN.out.symm, B⟩
    · have FIN := hid (show V = 0 by rw [MT.out, if_pos hz, if_neg (fun h => z1 h.2.1)])
      have tz : (P1 == 0) = false := beq_eq_false_iff_ne.2 z1
      subst hz
      subst z0
      go_enter Try.func18, Try.ntmps18
      go_wp2_with fail
      refine (N1.out _ _ _ (by simp)).mono ?_
      rintro e w1 ⟨rfl, hw⟩
      have B : Bl w w1 := by rw [← hw]; exact (((((Bl.refl w).alloc _).alloc _).alloc _).alloc _).alloc _
      obtain ⟨X0, X1, X2, X3⟩ := box4 (show Bl _ w1 by rw [← hw]; exact (Bl.refl _).alloc _)
      clear hw
      have k00 := X0.c0
      have k01 := X0.c1
      have k10 := X1.c0
      have k11 := X1.c1
      have k20 := X2.c0
      have k21 := X2.c1
      have k30 := X3.c0
      have k31 := X3.c1
      go_wp2_with fail
      refine ((C0).out _).mono ?_
      rintro e w2 ⟨rfl, hb⟩
      clear k00 k01 k10 k11 k20 k21 k30 k31
      have Y0 := BX.bl X0 hb
      have Y1 := BX.bl X1 hb
      have Y2 := BX.bl X2 hb
      have Y3 := BX.bl X3 hb
      have B2 := Bl.trans B hb
      clear X0 X1 X2 X3 B hb
      have X0 := Y0
      have X1 := Y1
      have X2 := Y2
      have X3 := Y3
      have B := B2
      clear Y0 Y1 Y2 Y3 B2
      have k00 := X0.c0
      have k01 := X0.c1
      have k10 := X1.c0
      have k11 := X1.c1
      have k20 := X2.c0
      have k21 := X2.c1
      have k30 := X3.c0
      have k31 := X3.c1
      go_wp2_with fail
      refine ((C1).out _).mono ?_
      rintro e w2 ⟨rfl, hb⟩
      clear k00 k01 k10 k11 k20 k21 k30 k31
      have Y0 := BX.bl X0 hb
      have Y1 := BX.bl X1 hb
      have Y2 := BX.bl X2 hb
      have Y3 := BX.bl X3 hb
      have B2 := Bl.trans B hb
      clear X0 X1 X2 X3 B hb
      have X0 := Y0
      have X1 := Y1
      have X2 := Y2
      have X3 := Y3
      have B := B2
      clear Y0 Y1 Y2 Y3 B2
      have k00 := X0.c0
      have k01 := X0.c1
      have k10 := X1.c0
      have k11 := X1.c1
      have k20 := X2.c0
      have k21 := X2.c1
      have k30 := X3.c0
      have k31 := X3.c1
      go_wp2_with fail
      refine ((C2).out _).mono ?_
      rintro e w2 ⟨rfl, hb⟩
      clear k00 k01 k10 k11 k20 k21 k30 k31
      have Y0 := BX.bl X0 hb
      have Y1 := BX.bl X1 hb
      have Y2 := BX.bl X2 hb
      have Y3 := BX.bl X3 hb
      have B2 := Bl.trans B hb
      clear X0 X1 X2 X3 B hb
      have X0 := Y0
      have X1 := Y1
      have X2 := Y2
      have X3 := Y3
      have B := B2
      clear Y0 Y1 Y2 Y3 B2
      have k00 := X0.c0
      have k01 := X0.c1
      have k10 := X1.c0
      have k11 := X1.c1
      have k20 := X2.c0
      have k21 := X2.c1
      have k30 := X3.c0
      have k31 := X3.c1
      go_wp2_with fail
      go_ret
      exact ⟨ret1 FIN.out.symm, B⟩
  · have FIN := hid (show V = 0 by rw [MT.out, if_pos hz, if_neg (fun h => z0 h.1)])
    have tz : (P0 == 0) = false := beq_eq_false_iff_ne.2 z0
    subst hz
    go_enter Try.func18, Try.ntmps18
    go_wp2_with fail
    refine (N1.out _ _ _ (by simp)).mono ?_
    rintro e w1 ⟨rfl, hw⟩
    have B : Bl w w1 := by rw [← hw]; exact (((((Bl.refl w).alloc _).alloc _).alloc _).alloc _).alloc _
    obtain ⟨X0, X1, X2, X3⟩ := box4 (show Bl _ w1 by rw [← hw]; exact (Bl.refl _).alloc _)
    clear hw
    have k00 := X0.c0
    have k01 := X0.c1
    have k10 := X1.c0
    have k11 := X1.c1
    have k20 := X2.c0
    have k21 := X2.c1
    have k30 := X3.c0
    have k31 := X3.c1
    go_wp2_with fail
    refine ((C0).out _).mono ?_
    rintro e w2 ⟨rfl, hb⟩
    clear k00 k01 k10 k11 k20 k21 k30 k31
    have Y0 := BX.bl X0 hb
    have Y1 := BX.bl X1 hb
    have Y2 := BX.bl X2 hb
    have Y3 := BX.bl X3 hb
    have B2 := Bl.trans B hb
    clear X0 X1 X2 X3 B hb
    have X0 := Y0
    have X1 := Y1
    have X2 := Y2
    have X3 := Y3
    have B := B2
    clear Y0 Y1 Y2 Y3 B2
    have k00 := X0.c0
    have k01 := X0.c1
    have k10 := X1.c0
    have k11 := X1.c1
    have k20 := X2.c0
    have k21 := X2.c1
    have k30 := X3.c0
    have k31 := X3.c1
    go_wp2_with fail
    refine ((C1).out _).mono ?_
    rintro e w2 ⟨rfl, hb⟩
    clear k00 k01 k10 k11 k20 k21 k30 k31
    have Y0 := BX.bl X0 hb
    have Y1 := BX.bl X1 hb
    have Y2 := BX.bl X2 hb
    have Y3 := BX.bl X3 hb
    have B2 := Bl.trans B hb
    clear X0 X1 X2 X3 B hb
    have X0 := Y0
    have X1 := Y1
    have X2 := Y2
    have X3 := Y3
    have B := B2
    clear Y0 Y1 Y2 Y3 B2
    have k00 := X0.c0
    have k01 := X0.c1
    have k10 := X1.c0
    have k11 := X1.c1
    have k20 := X2.c0
    have k21 := X2.c1
    have k30 := X3.c0
    have k31 := X3.c1
    go_wp2_with fail
    go_ret
    exact ⟨ret1 FIN.out.symm, B⟩

set_option maxHeartbeats 8000000 in
theorem meet1x (w : World) (V N P0 P1 P2 P3 S' T SH : Int) (a1 a2 b1 b2 c1 c2 d1 d2 : Int) (qab : ∀ w', (binOp .eql 23 (.agg #[.int .i64 a1, .int .i64 a2]) (.agg #[.int .i64 b1, .int .i64 b2])).run Try.prog w' = .ok (.bool false) w')
    (N1 : Hid (∀ (w' : World) (T' : TypeId) (g : Nat), g = w'.heap.size → Calls Try.prog 22 #[.slice (some ⟨g, 0, none⟩) 4 4] (w'.alloc (.cells #[.int .i64 a1, .int .i64 a2, .int .i64 b1, .int .i64 b2, .int .i64 c1, .int .i64 c2, .int .i64 d1, .int .i64 d2] T')) fun e w'' => e = .returned (.bool true) ∧ (w'.alloc (.cells #[.int .i64 a1, .int .i64 a2, .int .i64 b1, .int .i64 b2, .int .i64 c1, .int .i64 c2, .int .i64 d1, .int .i64 d2] T')) = w''))
    (C0 : Hid (∀ w', Calls Try.prog 34 #[.agg #[.int .i64 a1, .int .i64 a2], .agg #[.int .i64 b1, .int .i64 b2], .agg #[.int .i64 c1, .int .i64 c2], .agg #[.int .i64 d1, .int .i64 d2]] w' fun e w'' => e = .returned (.int .i64 N) ∧ Bl w' w''))
    (C1 : Hid (∀ w', Calls Try.prog 34 #[.agg #[.int .i64 a1, .int .i64 a2], .agg #[.int .i64 b1, .int .i64 b2], .agg #[.int .i64 a1, .int .i64 a2], .agg #[.int .i64 c1, .int .i64 c2]] w' fun e w'' => e = .returned (.int .i64 P0) ∧ Bl w' w''))
    (C2 : Hid (∀ w', Calls Try.prog 34 #[.agg #[.int .i64 a1, .int .i64 a2], .agg #[.int .i64 b1, .int .i64 b2], .agg #[.int .i64 a1, .int .i64 a2], .agg #[.int .i64 d1, .int .i64 d2]] w' fun e w'' => e = .returned (.int .i64 P1) ∧ Bl w' w''))
    (C3 : Hid (∀ w', Calls Try.prog 34 #[.agg #[.int .i64 c1, .int .i64 c2], .agg #[.int .i64 d1, .int .i64 d2], .agg #[.int .i64 c1, .int .i64 c2], .agg #[.int .i64 a1, .int .i64 a2]] w' fun e w'' => e = .returned (.int .i64 P2) ∧ Bl w' w''))
    (C4 : Hid (∀ w', Calls Try.prog 34 #[.agg #[.int .i64 c1, .int .i64 c2], .agg #[.int .i64 d1, .int .i64 d2], .agg #[.int .i64 c1, .int .i64 c2], .agg #[.int .i64 b1, .int .i64 b2]] w' fun e w'' => e = .returned (.int .i64 P3) ∧ Bl w' w''))
    (CS : Hid (∀ w', Calls Try.prog 39 #[.agg #[.int .i64 a1, .int .i64 a2], .agg #[.int .i64 b1, .int .i64 b2], .agg #[.int .i64 c1, .int .i64 c2], .agg #[.int .i64 d1, .int .i64 d2]] w' fun e w'' => e = .returned (.int .i64 SH) ∧ Bl w' w''))
    (MT : Hid (V = if N = 0 then (if P0 = 0 ∧ P1 = 0 ∧ P2 = 0 ∧ P3 = 0 then SH else 0) else if in01 N S' ∧ in01 N T then 1 else 0)) (hz : N ≠ 0) (l1 : -35184372088832 ≤ N) (l2 : N ≤ 35184372088832) (l3 : -35184372088832 ≤ S') (l4 : S' ≤ 35184372088832) (l5 : -35184372088832 ≤ T) (l6 : T ≤ 35184372088832)
    (CSS : Hid (∀ w', Calls Try.prog 34 #[.agg #[.int .i64 a1, .int .i64 a2], .agg #[.int .i64 c1, .int .i64 c2], .agg #[.int .i64 c1, .int .i64 c2], .agg #[.int .i64 d1, .int .i64 d2]] w' fun e w'' => e = .returned (.int .i64 S') ∧ Bl w' w''))
    (CT : Hid (∀ w', Calls Try.prog 34 #[.agg #[.int .i64 a1, .int .i64 a2], .agg #[.int .i64 c1, .int .i64 c2], .agg #[.int .i64 a1, .int .i64 a2], .agg #[.int .i64 b1, .int .i64 b2]] w' fun e w'' => e = .returned (.int .i64 T) ∧ Bl w' w'')) :
    Calls Try.prog 18 #[.agg #[.int .i64 a1, .int .i64 a2], .agg #[.int .i64 b1, .int .i64 b2], .agg #[.int .i64 c1, .int .i64 c2], .agg #[.int .i64 d1, .int .i64 d2]] w fun e w' => e = .returned (.int .i64 V) ∧ Bl w w' := by
  have tn : (N == 0) = false := beq_eq_false_iff_ne.2 hz
  go_enter Try.func18, Try.ntmps18
  go_wp2_with fail
  refine (N1.out _ _ _ (by simp)).mono ?_
  rintro e w1 ⟨rfl, hw⟩
  have B : Bl w w1 := by rw [← hw]; exact (((((Bl.refl w).alloc _).alloc _).alloc _).alloc _).alloc _
  obtain ⟨X0, X1, X2, X3⟩ := box4 (show Bl _ w1 by rw [← hw]; exact (Bl.refl _).alloc _)
  clear hw
  have k00 := X0.c0
  have k01 := X0.c1
  have k10 := X1.c0
  have k11 := X1.c1
  have k20 := X2.c0
  have k21 := X2.c1
  have k30 := X3.c0
  have k31 := X3.c1
  go_wp2_with fail
  refine ((C0).out _).mono ?_
  rintro e w2 ⟨rfl, hb⟩
  clear k00 k01 k10 k11 k20 k21 k30 k31
  have Y0 := BX.bl X0 hb
  have Y1 := BX.bl X1 hb
  have Y2 := BX.bl X2 hb
  have Y3 := BX.bl X3 hb
  have B2 := Bl.trans B hb
  clear X0 X1 X2 X3 B hb
  have X0 := Y0
  have X1 := Y1
  have X2 := Y2
  have X3 := Y3
  have B := B2
  clear Y0 Y1 Y2 Y3 B2
  have k00 := X0.c0
  have k01 := X0.c1
  have k10 := X1.c0
  have k11 := X1.c1
  have k20 := X2.c0
  have k21 := X2.c1
  have k30 := X3.c0
  have k31 := X3.c1
  have hzz : w.heap.size + 1 + 1 + 1 < w2.heap.size := X3.lt
  clear X0 X1 X2 X3
  go_wp2_with fail
  go_region_held3 (fun w' => w'.cell? ⟨w.heap.size, 0, none⟩ = some (.int .i64 a1) ∧ w'.cell? ⟨w.heap.size, 1, none⟩ = some (.int .i64 a2) ∧ w'.cell? ⟨w.heap.size + 1, 0, none⟩ = some (.int .i64 b1) ∧ w'.cell? ⟨w.heap.size + 1, 1, none⟩ = some (.int .i64 b2) ∧ w'.cell? ⟨w.heap.size + 1 + 1, 0, none⟩ = some (.int .i64 c1) ∧ w'.cell? ⟨w.heap.size + 1 + 1, 1, none⟩ = some (.int .i64 c2) ∧ w'.cell? ⟨w.heap.size + 1 + 1 + 1, 0, none⟩ = some (.int .i64 d1) ∧ w'.cell? ⟨w.heap.size + 1 + 1 + 1, 1, none⟩ = some (.int .i64 d2))
    (first | go_keep | (go_split_ands; exact ⟨(hbx.cell (p := ⟨w.heap.size, 0, none⟩) (by first | omega | (simp; omega))).trans (by assumption), (hbx.cell (p := ⟨w.heap.size, 1, none⟩) (by first | omega | (simp; omega))).trans (by assumption), (hbx.cell (p := ⟨w.heap.size + 1, 0, none⟩) (by first | omega | (simp; omega))).trans (by assumption), (hbx.cell (p := ⟨w.heap.size + 1, 1, none⟩) (by first | omega | (simp; omega))).trans (by assumption), (hbx.cell (p := ⟨w.heap.size + 1 + 1, 0, none⟩) (by first | omega | (simp; omega))).trans (by assumption), (hbx.cell (p := ⟨w.heap.size + 1 + 1, 1, none⟩) (by first | omega | (simp; omega))).trans (by assumption), (hbx.cell (p := ⟨w.heap.size + 1 + 1 + 1, 0, none⟩) (by first | omega | (simp; omega))).trans (by assumption), (hbx.cell (p := ⟨w.heap.size + 1 + 1 + 1, 1, none⟩) (by first | omega | (simp; omega))).trans (by assumption)⟩))
    (first | (go_at_call 34; (with_reducible refine (CSS.out _).mono ?_); rintro e wx ⟨rfl, hbx⟩; have hzw : w.heap.size + 1 + 1 + 1 < wx.heap.size := (by have hz0 := hbx.size; first | omega | (simp at hz0; omega)); have hB : Bl w wx := Bl.trans (by first | assumption | exact Bl.drew B) hbx) | (go_at_call 34; (with_reducible refine (CT.out _).mono ?_); rintro e wx ⟨rfl, hbx⟩; have hzw : w.heap.size + 1 + 1 + 1 < wx.heap.size := (by have hz0 := hbx.size; first | omega | (simp at hz0; omega)); have hB : Bl w wx := Bl.trans (by first | assumption | exact Bl.drew B) hbx))
  all_goals
    have hW : Bl w wx := by assumption
    by_cases i1 : in01 N S'
    · by_cases i2 : in01 N T
      · have FIN := hid (show V = 1 by rw [MT.out, if_neg hz, if_pos ⟨i1, i2⟩])
        unfold in01 at i1 i2
        rcases i1 with ⟨g1, g2, g3⟩ | ⟨g1, g2, g3⟩
        · have g4 : 0 ≤ T ∧ T ≤ N := by omega
          obtain ⟨g4, g5⟩ := g4
          clear i2
          go_wp2_with fail
          go_ret
          exact ⟨ret1 FIN.out.symm, hW⟩
        · have g4 : N ≤ T ∧ T ≤ 0 := by omega
          obtain ⟨g4, g5⟩ := g4
          clear i2
          go_wp2_with fail
          go_ret
          exact ⟨ret1 FIN.out.symm, hW⟩
      · have FIN := hid (show V = 0 by rw [MT.out, if_neg hz, if_neg (fun h => i2 h.2)])
        unfold in01 at i1 i2
        rcases i1 with ⟨g1, g2, g3⟩ | ⟨g1, g2, g3⟩
        · have g4 : T < 0 ∨ (0 ≤ T ∧ N < T) := by omega
          clear i2
          rcases g4 with g4 | ⟨g4, g5⟩
          all_goals
            go_wp2_with fail
            go_ret
            exact ⟨ret1 FIN.out.symm, hW⟩
        · have g4 : 0 < T ∨ (T ≤ 0 ∧ T < N) := by omega
          clear i2
          rcases g4 with g4 | ⟨g4, g5⟩
          all_goals
            go_wp2_with fail
            go_ret
            exact ⟨ret1 FIN.out.symm, hW⟩
    · have FIN := hid (show V = 0 by rw [MT.out, if_neg hz, if_neg (fun h => i1 h.1)])
      unfold in01 at i1
      have g : (0 < N ∧ S' < 0) ∨ (0 < N ∧ 0 ≤ S' ∧ N < S') ∨ (N < 0 ∧ 0 < S') ∨ (N < 0 ∧ S' ≤ 0 ∧ S' < N) := by omega
      clear i1
      rcases g with ⟨g1, g2⟩ | ⟨g1, g2, g3⟩ | ⟨g1, g2⟩ | ⟨g1, g2, g3⟩
      all_goals
        go_wp2_with fail
        go_ret
        exact ⟨ret1 FIN.out.symm, hW⟩

set_option maxHeartbeats 8000000 in
theorem meet2z (w : World) (V N P0 P1 P2 P3 S' T SH : Int) (a1 a2 c1 c2 d1 d2 : Int) (qcd : ∀ w', (binOp .eql 23 (.agg #[.int .i64 c1, .int .i64 c2]) (.agg #[.int .i64 d1, .int .i64 d2])).run Try.prog w' = .ok (.bool false) w')
    (N1 : Hid (∀ (w' : World) (T' : TypeId) (g : Nat), g = w'.heap.size → Calls Try.prog 22 #[.slice (some ⟨g, 0, none⟩) 4 4] (w'.alloc (.cells #[.int .i64 a1, .int .i64 a2, .int .i64 a1, .int .i64 a2, .int .i64 c1, .int .i64 c2, .int .i64 d1, .int .i64 d2] T')) fun e w'' => e = .returned (.bool true) ∧ (w'.alloc (.cells #[.int .i64 a1, .int .i64 a2, .int .i64 a1, .int .i64 a2, .int .i64 c1, .int .i64 c2, .int .i64 d1, .int .i64 d2] T')) = w''))
    (C0 : Hid (∀ w', Calls Try.prog 34 #[.agg #[.int .i64 a1, .int .i64 a2], .agg #[.int .i64 a1, .int .i64 a2], .agg #[.int .i64 c1, .int .i64 c2], .agg #[.int .i64 d1, .int .i64 d2]] w' fun e w'' => e = .returned (.int .i64 N) ∧ Bl w' w''))
    (C1 : Hid (∀ w', Calls Try.prog 34 #[.agg #[.int .i64 a1, .int .i64 a2], .agg #[.int .i64 a1, .int .i64 a2], .agg #[.int .i64 a1, .int .i64 a2], .agg #[.int .i64 c1, .int .i64 c2]] w' fun e w'' => e = .returned (.int .i64 P0) ∧ Bl w' w''))
    (C2 : Hid (∀ w', Calls Try.prog 34 #[.agg #[.int .i64 a1, .int .i64 a2], .agg #[.int .i64 a1, .int .i64 a2], .agg #[.int .i64 a1, .int .i64 a2], .agg #[.int .i64 d1, .int .i64 d2]] w' fun e w'' => e = .returned (.int .i64 P1) ∧ Bl w' w''))
    (C3 : Hid (∀ w', Calls Try.prog 34 #[.agg #[.int .i64 c1, .int .i64 c2], .agg #[.int .i64 d1, .int .i64 d2], .agg #[.int .i64 c1, .int .i64 c2], .agg #[.int .i64 a1, .int .i64 a2]] w' fun e w'' => e = .returned (.int .i64 P2) ∧ Bl w' w''))
    (C4 : Hid (∀ w', Calls Try.prog 34 #[.agg #[.int .i64 c1, .int .i64 c2], .agg #[.int .i64 d1, .int .i64 d2], .agg #[.int .i64 c1, .int .i64 c2], .agg #[.int .i64 a1, .int .i64 a2]] w' fun e w'' => e = .returned (.int .i64 P3) ∧ Bl w' w''))
    (CS : Hid (∀ w', Calls Try.prog 39 #[.agg #[.int .i64 a1, .int .i64 a2], .agg #[.int .i64 a1, .int .i64 a2], .agg #[.int .i64 c1, .int .i64 c2], .agg #[.int .i64 d1, .int .i64 d2]] w' fun e w'' => e = .returned (.int .i64 SH) ∧ Bl w' w''))
    (MT : Hid (V = if N = 0 then (if P0 = 0 ∧ P1 = 0 ∧ P2 = 0 ∧ P3 = 0 then SH else 0) else if in01 N S' ∧ in01 N T then 1 else 0)) (hz : N = 0) :
    Calls Try.prog 18 #[.agg #[.int .i64 a1, .int .i64 a2], .agg #[.int .i64 a1, .int .i64 a2], .agg #[.int .i64 c1, .int .i64 c2], .agg #[.int .i64 d1, .int .i64 d2]] w fun e w' => e = .returned (.int .i64 V) ∧ Bl w w' := by
  by_cases z0 : P0 = 0
  · by_cases z1 : P1 = 0
    · by_cases z2 : P2 = 0
      · by_cases z3 : P3 = 0
        · have FIN := hid (show V = SH by rw [MT.out, if_pos hz, if_pos ⟨z0, z1, z2, z3⟩])
          subst hz
          subst z0
          subst z1
          subst z2
          subst z3
          go_enter Try.func18, Try.ntmps18
          go_wp2_with fail
          refine (N1.out _ _ _ (by simp)).mono ?_
          rintro e w1 ⟨rfl, hw⟩
          have B : Bl w w1 := by rw [← hw]; exact (((((Bl.refl w).alloc _).alloc _).alloc _).alloc _).alloc _
          obtain ⟨X0, X1, X2, X3⟩ := box4 (show Bl _ w1 by rw [← hw]; exact (Bl.refl _).alloc _)
          clear hw
          have k00 := X0.c0
          have k01 := X0.c1
          have k10 := X1.c0
          have k11 := X1.c1
          have k20 := X2.c0
          have k21 := X2.c1
          have k30 := X3.c0
          have k31 := X3.c1
          go_wp2_with fail
          refine ((C0).out _).mono ?_
          rintro e w2 ⟨rfl, hb⟩
          clear k00 k01 k10 k11 k20 k21 k30 k31
          have Y0 := BX.bl X0 hb
          have Y1 := BX.bl X1 hb
          have Y2 := BX.bl X2 hb
          have Y3 := BX.bl X3 hb
          have B2 := Bl.trans B hb
          clear X0 X1 X2 X3 B hb
          have X0 := Y0
          have X1 := Y1
          have X2 := Y2
          have X3 := Y3
          have B := B2
          clear Y0 Y1 Y2 Y3 B2
          have k00 := X0.c0
          have k01 := X0.c1
          have k10 := X1.c0
          have k11 := X1.c1
          have k20 := X2.c0
          have k21 := X2.c1
          have k30 := X3.c0
          have k31 := X3.c1
          go_wp2_with fail
          refine ((C1).out _).mono ?_
          rintro e w2 ⟨rfl, hb⟩
          clear k00 k01 k10 k11 k20 k21 k30 k31
          have Y0 := BX.bl X0 hb
          have Y1 := BX.bl X1 hb
          have Y2 := BX.bl X2 hb
          have Y3 := BX.bl X3 hb
          have B2 := Bl.trans B hb
          clear X0 X1 X2 X3 B hb
          have X0 := Y0
          have X1 := Y1
          have X2 := Y2
          have X3 := Y3
          have B := B2
          clear Y0 Y1 Y2 Y3 B2
          have k00 := X0.c0
          have k01 := X0.c1
          have k10 := X1.c0
          have k11 := X1.c1
          have k20 := X2.c0
          have k21 := X2.c1
          have k30 := X3.c0
          have k31 := X3.c1
          go_wp2_with fail
          refine ((C2).out _).mono ?_
          rintro e w2 ⟨rfl, hb⟩
          clear k00 k01 k10 k11 k20 k21 k30 k31
          have Y0 := BX.bl X0 hb
          have Y1 := BX.bl X1 hb
          have Y2 := BX.bl X2 hb
          have Y3 := BX.bl X3 hb
          have B2 := Bl.trans B hb
          clear X0 X1 X2 X3 B hb
          have X0 := Y0
          have X1 := Y1
          have X2 := Y2
          have X3 := Y3
          have B := B2
          clear Y0 Y1 Y2 Y3 B2
          have k00 := X0.c0
          have k01 := X0.c1
          have k10 := X1.c0
          have k11 := X1.c1
          have k20 := X2.c0
          have k21 := X2.c1
          have k30 := X3.c0
          have k31 := X3.c1
          go_wp2_with fail
          refine ((C3).out _).mono ?_
          rintro e w2 ⟨rfl, hb⟩
          clear k00 k01 k10 k11 k20 k21 k30 k31
          have Y0 := BX.bl X0 hb
          have Y1 := BX.bl X1 hb
          have Y2 := BX.bl X2 hb
          have Y3 := BX.bl X3 hb
          have B2 := Bl.trans B hb
          clear X0 X1 X2 X3 B hb
          have X0 := Y0
          have X1 := Y1
          have X2 := Y2
          have X3 := Y3
          have B := B2
          clear Y0 Y1 Y2 Y3 B2
          have k00 := X0.c0
          have k01 := X0.c1
          have k10 := X1.c0
          have k11 := X1.c1
          have k20 := X2.c0
          have k21 := X2.c1
          have k30 := X3.c0
          have k31 := X3.c1
          go_wp2_with fail
          refine ((C4).out _).mono ?_
          rintro e w2 ⟨rfl, hb⟩
          clear k00 k01 k10 k11 k20 k21 k30 k31
          have Y0 := BX.bl X0 hb
          have Y1 := BX.bl X1 hb
          have Y2 := BX.bl X2 hb
          have Y3 := BX.bl X3 hb
          have B2 := Bl.trans B hb
          clear X0 X1 X2 X3 B hb
          have X0 := Y0
          have X1 := Y1
          have X2 := Y2
          have X3 := Y3
          have B := B2
          clear Y0 Y1 Y2 Y3 B2
          have k00 := X0.c0
          have k01 := X0.c1
          have k10 := X1.c0
          have k11 := X1.c1
          have k20 := X2.c0
          have k21 := X2.c1
          have k30 := X3.c0
          have k31 := X3.c1
          go_wp2_with fail
          refine ((CS).out _).mono ?_
          rintro e w2 ⟨rfl, hb⟩
          have B := Bl.trans B hb
          go_wp2_with fail
          go_ret
          exact ⟨ret1 FIN.out.symm, B⟩
        · have FIN := hid (show V = 0 by rw [MT.out, if_pos hz, if_neg (fun h => z3 h.2.2.2)])
          have tz : (P3 == 0) = false := beq_eq_false_iff_ne.2 z3
          subst hz
          subst z0
          subst z1
          subst z2
          go_enter Try.func18, Try.ntmps18
          go_wp2_with fail
          refine (N1.out _ _ _ (by simp)).mono ?_
          rintro e w1 ⟨rfl, hw⟩
          have B : Bl w w1 := by rw [← hw]; exact (((((Bl.refl w).alloc _).alloc _).alloc _).alloc _).alloc _
          obtain ⟨X0, X1, X2, X3⟩ := box4 (show Bl _ w1 by rw [← hw]; exact (Bl.refl _).alloc _)
          clear hw
          have k00 := X0.c0
          have k01 := X0.c1
          have k10 := X1.c0
          have k11 := X1.c1
          have k20 := X2.c0
          have k21 := X2.c1
          have k30 := X3.c0
          have k31 := X3.c1
          go_wp2_with fail
          refine ((C0).out _).mono ?_
          rintro e w2 ⟨rfl, hb⟩
          clear k00 k01 k10 k11 k20 k21 k30 k31
          have Y0 := BX.bl X0 hb
          have Y1 := BX.bl X1 hb
          have Y2 := BX.bl X2 hb
          have Y3 := BX.bl X3 hb
          have B2 := Bl.trans B hb
          clear X0 X1 X2 X3 B hb
          have X0 := Y0
          have X1 := Y1
          have X2 := Y2
          have X3 := Y3
          have B := B2
          clear Y0 Y1 Y2 Y3 B2
          have k00 := X0.c0
          have k01 := X0.c1
          have k10 := X1.c0
          have k11 := X1.c1
          have k20 := X2.c0
          have k21 := X2.c1
          have k30 := X3.c0
          have k31 := X3.c1
          go_wp2_with fail
          refine ((C1).out _).mono ?_
          rintro e w2 ⟨rfl, hb⟩
          clear k00 k01 k10 k11 k20 k21 k30 k31
          have Y0 := BX.bl X0 hb
          have Y1 := BX.bl X1 hb
          have Y2 := BX.bl X2 hb
          have Y3 := BX.bl X3 hb
          have B2 := Bl.trans B hb
          clear X0 X1 X2 X3 B hb
          have X0 := Y0
          have X1 := Y1
          have X2 := Y2
          have X3 := Y3
          have B := B2
          clear Y0 Y1 Y2 Y3 B2
          have k00 := X0.c0
          have k01 := X0.c1
          have k10 := X1.c0
          have k11 := X1.c1
          have k20 := X2.c0
          have k21 := X2.c1
          have k30 := X3.c0
          have k31 := X3.c1
          go_wp2_with fail
          refine ((C2).out _).mono ?_
          rintro e w2 ⟨rfl, hb⟩
          clear k00 k01 k10 k11 k20 k21 k30 k31
          have Y0 := BX.bl X0 hb
          have Y1 := BX.bl X1 hb
          have Y2 := BX.bl X2 hb
          have Y3 := BX.bl X3 hb
          have B2 := Bl.trans B hb
          clear X0 X1 X2 X3 B hb
          have X0 := Y0
          have X1 := Y1
          have X2 := Y2
          have X3 := Y3
          have B := B2
          clear Y0 Y1 Y2 Y3 B2
          have k00 := X0.c0
          have k01 := X0.c1
          have k10 := X1.c0
          have k11 := X1.c1
          have k20 := X2.c0
          have k21 := X2.c1
          have k30 := X3.c0
          have k31 := X3.c1
          go_wp2_with fail
          refine ((C3).out _).mono ?_
          rintro e w2 ⟨rfl, hb⟩
          clear k00 k01 k10 k11 k20 k21 k30 k31
          have Y0 := BX.bl X0 hb
          have Y1 := BX.bl X1 hb
          have Y2 := BX.bl X2 hb
          have Y3 := BX.bl X3 hb
          have B2 := Bl.trans B hb
          clear X0 X1 X2 X3 B hb
          have X0 := Y0
          have X1 := Y1
          have X2 := Y2
          have X3 := Y3
          have B := B2
          clear Y0 Y1 Y2 Y3 B2
          have k00 := X0.c0
          have k01 := X0.c1
          have k10 := X1.c0
          have k11 := X1.c1
          have k20 := X2.c0
          have k21 := X2.c1
          have k30 := X3.c0
          have k31 := X3.c1
          go_wp2_with fail
          refine ((C4).out _).mono ?_
          rintro e w2 ⟨rfl, hb⟩
          clear k00 k01 k10 k11 k20 k21 k30 k31
          have Y0 := BX.bl X0 hb
          have Y1 := BX.bl X1 hb
          have Y2 := BX.bl X2 hb
          have Y3 := BX.bl X3 hb
          have B2 := Bl.trans B hb
          clear X0 X1 X2 X3 B hb
          have X0 := Y0
          have X1 := Y1
          have X2 := Y2
          have X3 := Y3
          have B := B2
          clear Y0 Y1 Y2 Y3 B2
          have k00 := X0.c0
          have k01 := X0.c1
          have k10 := X1.c0
          have k11 := X1.c1
          have k20 := X2.c0
          have k21 := X2.c1
          have k30 := X3.c0
          have k31 := X3.c1
          go_wp2_with fail
          go_ret
          exact ⟨ret1 FIN.out.symm, B⟩
      · have FIN := hid (show V = 0 by rw [MT.out, if_pos hz, if_neg (fun h => z2 h.2.2.1)])
        have tz : (P2 == 0) = false := beq_eq_false_iff_ne.2 z2
        subst hz
        subst z0
        subst z1
        go_enter Try.func18, Try.ntmps18
        go_wp2_with fail
        refine (N1.out _ _ _ (by simp)).mono ?_
        rintro e w1 ⟨rfl, hw⟩
        have B : Bl w w1 := by rw [← hw]; exact (((((Bl.refl w).alloc _).alloc _).alloc _).alloc _).alloc _
        obtain ⟨X0, X1, X2, X3⟩ := box4 (show Bl _ w1 by rw [← hw]; exact (Bl.refl _).alloc _)
        clear hw
        have k00 := X0.c0
        have k01 := X0.c1
        have k10 := X1.c0
        have k11 := X1.c1
        have k20 := X2.c0
        have k21 := X2.c1
        have k30 := X3.c0
        have k31 := X3.c1
        go_wp2_with fail
        refine ((C0).out _).mono ?_
        rintro e w2 ⟨rfl, hb⟩
        clear k00 k01 k10 k11 k20 k21 k30 k31
        have Y0 := BX.bl X0 hb
        have Y1 := BX.bl X1 hb
        have Y2 := BX.bl X2 hb
        have Y3 := BX.bl X3 hb
        have B2 := Bl.trans B hb
        clear X0 X1 X2 X3 B hb
        have X0 := Y0
        have X1 := Y1
        have X2 := Y2
        have X3 := Y3
        have B := B2
        clear Y0 Y1 Y2 Y3 B2
        have k00 := X0.c0
        have k01 := X0.c1
        have k10 := X1.c0
        have k11 := X1.c1
        have k20 := X2.c0
        have k21 := X2.c1
        have k30 := X3.c0
        have k31 := X3.c1
        go_wp2_with fail
        refine ((C1).out _).mono ?_
        rintro e w2 ⟨rfl, hb⟩
        clear k00 k01 k10 k11 k20 k21 k30 k31
        have Y0 := BX.bl X0 hb
        have Y1 := BX.bl X1 hb
        have Y2 := BX.bl X2 hb
        have Y3 := BX.bl X3 hb
        have B2 := Bl.trans B hb
        clear X0 X1 X2 X3 B hb
        have X0 := Y0
        have X1 := Y1
        have X2 := Y2
        have X3 := Y3
        have B := B2
        clear Y0 Y1 Y2 Y3 B2
        have k00 := X0.c0
        have k01 := X0.c1
        have k10 := X1.c0
        have k11 := X1.c1
        have k20 := X2.c0
        have k21 := X2.c1
        have k30 := X3.c0
        have k31 := X3.c1
        go_wp2_with fail
        refine ((C2).out _).mono ?_
        rintro e w2 ⟨rfl, hb⟩
        clear k00 k01 k10 k11 k20 k21 k30 k31
        have Y0 := BX.bl X0 hb
        have Y1 := BX.bl X1 hb
        have Y2 := BX.bl X2 hb
        have Y3 := BX.bl X3 hb
        have B2 := Bl.trans B hb
        clear X0 X1 X2 X3 B hb
        have X0 := Y0
        have X1 := Y1
        have X2 := Y2
        have X3 := Y3
        have B := B2
        clear Y0 Y1 Y2 Y3 B2
        have k00 := X0.c0
        have k01 := X0.c1
        have k10 := X1.c0
        have k11 := X1.c1
        have k20 := X2.c0
        have k21 := X2.c1
        have k30 := X3.c0
        have k31 := X3.c1
        go_wp2_with fail
        refine ((C3).out _).mono ?_
        rintro e w2 ⟨rfl, hb⟩
        clear k00 k01 k10 k11 k20 k21 k30 k31
        have Y0 := BX.bl X0 hb
        have Y1 := BX.bl X1 hb
        have Y2 := BX.bl X2 hb
        have Y3 := BX.bl X3 hb
        have B2 := Bl.trans B hb
        clear X0 X1 X2 X3 B hb
        have X0 := Y0
        have X1 := Y1
        have X2 := Y2
        have X3 := Y3
        have B := B2
        clear Y0 Y1 Y2 Y3 B2
        have k00 := X0.c0
        have k01 := X0.c1
        have k10 := X1.c0
        have k11 := X1.c1
        have k20 := X2.c0
        have k21 := X2.c1
        have k30 := X3.c0
        have k31 := X3.c1
        go_wp2_with fail
        go_ret
        exact ⟨ret1 FIN.out.symm, B⟩
    · have FIN := hid (show V = 0 by rw [MT.out, if_pos hz, if_neg (fun h => z1 h.2.1)])
      have tz : (P1 == 0) = false := beq_eq_false_iff_ne.2 z1
      subst hz
      subst z0
      go_enter Try.func18, Try.ntmps18
      go_wp2_with fail
      refine (N1.out _ _ _ (by simp)).mono ?_
      rintro e w1 ⟨rfl, hw⟩
      have B : Bl w w1 := by rw [← hw]; exact (((((Bl.refl w).alloc _).alloc _).alloc _).alloc _).alloc _
      obtain ⟨X0, X1, X2, X3⟩ := box4 (show Bl _ w1 by rw [← hw]; exact (Bl.refl _).alloc _)
      clear hw
      have k00 := X0.c0
      have k01 := X0.c1
      have k10 := X1.c0
      have k11 := X1.c1
      have k20 := X2.c0
      have k21 := X2.c1
      have k30 := X3.c0
      have k31 := X3.c1
      go_wp2_with fail
      refine ((C0).out _).mono ?_
      rintro e w2 ⟨rfl, hb⟩
      clear k00 k01 k10 k11 k20 k21 k30 k31
      have Y0 := BX.bl X0 hb
      have Y1 := BX.bl X1 hb
      have Y2 := BX.bl X2 hb
      have Y3 := BX.bl X3 hb
      have B2 := Bl.trans B hb
      clear X0 X1 X2 X3 B hb
      have X0 := Y0
      have X1 := Y1
      have X2 := Y2
      have X3 := Y3
      have B := B2
      clear Y0 Y1 Y2 Y3 B2
      have k00 := X0.c0
      have k01 := X0.c1
      have k10 := X1.c0
      have k11 := X1.c1
      have k20 := X2.c0
      have k21 := X2.c1
      have k30 := X3.c0
      have k31 := X3.c1
      go_wp2_with fail
      refine ((C1).out _).mono ?_
      rintro e w2 ⟨rfl, hb⟩
      clear k00 k01 k10 k11 k20 k21 k30 k31
      have Y0 := BX.bl X0 hb
      have Y1 := BX.bl X1 hb
      have Y2 := BX.bl X2 hb
      have Y3 := BX.bl X3 hb
      have B2 := Bl.trans B hb
      clear X0 X1 X2 X3 B hb
      have X0 := Y0
      have X1 := Y1
      have X2 := Y2
      have X3 := Y3
      have B := B2
      clear Y0 Y1 Y2 Y3 B2
      have k00 := X0.c0
      have k01 := X0.c1
      have k10 := X1.c0
      have k11 := X1.c1
      have k20 := X2.c0
      have k21 := X2.c1
      have k30 := X3.c0
      have k31 := X3.c1
      go_wp2_with fail
      refine ((C2).out _).mono ?_
      rintro e w2 ⟨rfl, hb⟩
      clear k00 k01 k10 k11 k20 k21 k30 k31
      have Y0 := BX.bl X0 hb
      have Y1 := BX.bl X1 hb
      have Y2 := BX.bl X2 hb
      have Y3 := BX.bl X3 hb
      have B2 := Bl.trans B hb
      clear X0 X1 X2 X3 B hb
      have X0 := Y0
      have X1 := Y1
      have X2 := Y2
      have X3 := Y3
      have B := B2
      clear Y0 Y1 Y2 Y3 B2
      have k00 := X0.c0
      have k01 := X0.c1
      have k10 := X1.c0
      have k11 := X1.c1
      have k20 := X2.c0
      have k21 := X2.c1
      have k30 := X3.c0
      have k31 := X3.c1
      go_wp2_with fail
      go_ret
      exact ⟨ret1 FIN.out.symm, B⟩
  · have FIN := hid (show V = 0 by rw [MT.out, if_pos hz, if_neg (fun h => z0 h.1)])
    have tz : (P0 == 0) = false := beq_eq_false_iff_ne.2 z0
    subst hz
    go_enter Try.func18, Try.ntmps18
    go_wp2_with fail
    refine (N1.out _ _ _ (by simp)).mono ?_
    rintro e w1 ⟨rfl, hw⟩
    have B : Bl w w1 := by rw [← hw]; exact (((((Bl.refl w).alloc _).alloc _).alloc _).alloc _).alloc _
    obtain ⟨X0, X1, X2, X3⟩ := box4 (show Bl _ w1 by rw [← hw]; exact (Bl.refl _).alloc _)
    clear hw
    have k00 := X0.c0
    have k01 := X0.c1
    have k10 := X1.c0
    have k11 := X1.c1
    have k20 := X2.c0
    have k21 := X2.c1
    have k30 := X3.c0
    have k31 := X3.c1
    go_wp2_with fail
    refine ((C0).out _).mono ?_
    rintro e w2 ⟨rfl, hb⟩
    clear k00 k01 k10 k11 k20 k21 k30 k31
    have Y0 := BX.bl X0 hb
    have Y1 := BX.bl X1 hb
    have Y2 := BX.bl X2 hb
    have Y3 := BX.bl X3 hb
    have B2 := Bl.trans B hb
    clear X0 X1 X2 X3 B hb
    have X0 := Y0
    have X1 := Y1
    have X2 := Y2
    have X3 := Y3
    have B := B2
    clear Y0 Y1 Y2 Y3 B2
    have k00 := X0.c0
    have k01 := X0.c1
    have k10 := X1.c0
    have k11 := X1.c1
    have k20 := X2.c0
    have k21 := X2.c1
    have k30 := X3.c0
    have k31 := X3.c1
    go_wp2_with fail
    refine ((C1).out _).mono ?_
    rintro e w2 ⟨rfl, hb⟩
    clear k00 k01 k10 k11 k20 k21 k30 k31
    have Y0 := BX.bl X0 hb
    have Y1 := BX.bl X1 hb
    have Y2 := BX.bl X2 hb
    have Y3 := BX.bl X3 hb
    have B2 := Bl.trans B hb
    clear X0 X1 X2 X3 B hb
    have X0 := Y0
    have X1 := Y1
    have X2 := Y2
    have X3 := Y3
    have B := B2
    clear Y0 Y1 Y2 Y3 B2
    have k00 := X0.c0
    have k01 := X0.c1
    have k10 := X1.c0
    have k11 := X1.c1
    have k20 := X2.c0
    have k21 := X2.c1
    have k30 := X3.c0
    have k31 := X3.c1
    go_wp2_with fail
    go_ret
    exact ⟨ret1 FIN.out.symm, B⟩

set_option maxHeartbeats 8000000 in
theorem meet3z (w : World) (V N P0 P1 P2 P3 S' T SH : Int) (a1 a2 : Int) 
    (N1 : Hid (∀ (w' : World) (T' : TypeId) (g : Nat), g = w'.heap.size → Calls Try.prog 22 #[.slice (some ⟨g, 0, none⟩) 4 4] (w'.alloc (.cells #[.int .i64 a1, .int .i64 a2, .int .i64 a1, .int .i64 a2, .int .i64 a1, .int .i64 a2, .int .i64 a1, .int .i64 a2] T')) fun e w'' => e = .returned (.bool true) ∧ (w'.alloc (.cells #[.int .i64 a1, .int .i64 a2, .int .i64 a1, .int .i64 a2, .int .i64 a1, .int .i64 a2, .int .i64 a1, .int .i64 a2] T')) = w''))
    (C0 : Hid (∀ w', Calls Try.prog 34 #[.agg #[.int .i64 a1, .int .i64 a2], .agg #[.int .i64 a1, .int .i64 a2], .agg #[.int .i64 a1, .int .i64 a2], .agg #[.int .i64 a1, .int .i64 a2]] w' fun e w'' => e = .returned (.int .i64 N) ∧ Bl w' w''))
    (C1 : Hid (∀ w', Calls Try.prog 34 #[.agg #[.int .i64 a1, .int .i64 a2], .agg #[.int .i64 a1, .int .i64 a2], .agg #[.int .i64 a1, .int .i64 a2], .agg #[.int .i64 a1, .int .i64 a2]] w' fun e w'' => e = .returned (.int .i64 P0) ∧ Bl w' w''))
    (C2 : Hid (∀ w', Calls Try.prog 34 #[.agg #[.int .i64 a1, .int .i64 a2], .agg #[.int .i64 a1, .int .i64 a2], .agg #[.int .i64 a1, .int .i64 a2], .agg #[.int .i64 a1, .int .i64 a2]] w' fun e w'' => e = .returned (.int .i64 P1) ∧ Bl w' w''))
    (C3 : Hid (∀ w', Calls Try.prog 34 #[.agg #[.int .i64 a1, .int .i64 a2], .agg #[.int .i64 a1, .int .i64 a2], .agg #[.int .i64 a1, .int .i64 a2], .agg #[.int .i64 a1, .int .i64 a2]] w' fun e w'' => e = .returned (.int .i64 P2) ∧ Bl w' w''))
    (C4 : Hid (∀ w', Calls Try.prog 34 #[.agg #[.int .i64 a1, .int .i64 a2], .agg #[.int .i64 a1, .int .i64 a2], .agg #[.int .i64 a1, .int .i64 a2], .agg #[.int .i64 a1, .int .i64 a2]] w' fun e w'' => e = .returned (.int .i64 P3) ∧ Bl w' w''))
    (CS : Hid (∀ w', Calls Try.prog 39 #[.agg #[.int .i64 a1, .int .i64 a2], .agg #[.int .i64 a1, .int .i64 a2], .agg #[.int .i64 a1, .int .i64 a2], .agg #[.int .i64 a1, .int .i64 a2]] w' fun e w'' => e = .returned (.int .i64 SH) ∧ Bl w' w''))
    (MT : Hid (V = if N = 0 then (if P0 = 0 ∧ P1 = 0 ∧ P2 = 0 ∧ P3 = 0 then SH else 0) else if in01 N S' ∧ in01 N T then 1 else 0)) (hz : N = 0) :
    Calls Try.prog 18 #[.agg #[.int .i64 a1, .int .i64 a2], .agg #[.int .i64 a1, .int .i64 a2], .agg #[.int .i64 a1, .int .i64 a2], .agg #[.int .i64 a1, .int .i64 a2]] w fun e w' => e = .returned (.int .i64 V) ∧ Bl w w' := by
  by_cases z0 : P0 = 0
  · by_cases z1 : P1 = 0
    · by_cases z2 : P2 = 0
      · by_cases z3 : P3 = 0
        · have FIN := hid (show V = SH by rw [MT.out, if_pos hz, if_pos ⟨z0, z1, z2, z3⟩])
          subst hz
          subst z0
          subst z1
          subst z2
          subst z3
          go_enter Try.func18, Try.ntmps18
          go_wp2_with fail
          refine (N1.out _ _ _ (by simp)).mono ?_
          rintro e w1 ⟨rfl, hw⟩
          have B : Bl w w1 := by rw [← hw]; exact (((((Bl.refl w).alloc _).alloc _).alloc _).alloc _).alloc _
          obtain ⟨X0, X1, X2, X3⟩ := box4 (show Bl _ w1 by rw [← hw]; exact (Bl.refl _).alloc _)
          clear hw
          have k00 := X0.c0
          have k01 := X0.c1
          have k10 := X1.c0
          have k11 := X1.c1
          have k20 := X2.c0
          have k21 := X2.c1
          have k30 := X3.c0
          have k31 := X3.c1
          go_wp2_with fail
          refine ((C0).out _).mono ?_
          rintro e w2 ⟨rfl, hb⟩
          clear k00 k01 k10 k11 k20 k21 k30 k31
          have Y0 := BX.bl X0 hb
          have Y1 := BX.bl X1 hb
          have Y2 := BX.bl X2 hb
          have Y3 := BX.bl X3 hb
          have B2 := Bl.trans B hb
          clear X0 X1 X2 X3 B hb
          have X0 := Y0
          have X1 := Y1
          have X2 := Y2
          have X3 := Y3
          have B := B2
          clear Y0 Y1 Y2 Y3 B2
          have k00 := X0.c0
          have k01 := X0.c1
          have k10 := X1.c0
          have k11 := X1.c1
          have k20 := X2.c0
          have k21 := X2.c1
          have k30 := X3.c0
          have k31 := X3.c1
          go_wp2_with fail
          refine ((C1).out _).mono ?_
          rintro e w2 ⟨rfl, hb⟩
          clear k00 k01 k10 k11 k20 k21 k30 k31
          have Y0 := BX.bl X0 hb
          have Y1 := BX.bl X1 hb
          have Y2 := BX.bl X2 hb
          have Y3 := BX.bl X3 hb
          have B2 := Bl.trans B hb
          clear X0 X1 X2 X3 B hb
          have X0 := Y0
          have X1 := Y1
          have X2 := Y2
          have X3 := Y3
          have B := B2
          clear Y0 Y1 Y2 Y3 B2
          have k00 := X0.c0
          have k01 := X0.c1
          have k10 := X1.c0
          have k11 := X1.c1
          have k20 := X2.c0
          have k21 := X2.c1
          have k30 := X3.c0
          have k31 := X3.c1
          go_wp2_with fail
          refine ((C2).out _).mono ?_
          rintro e w2 ⟨rfl, hb⟩
          clear k00 k01 k10 k11 k20 k21 k30 k31
          have Y0 := BX.bl X0 hb
          have Y1 := BX.bl X1 hb
          have Y2 := BX.bl X2 hb
          have Y3 := BX.bl X3 hb
          have B2 := Bl.trans B hb
          clear X0 X1 X2 X3 B hb
          have X0 := Y0
          have X1 := Y1
          have X2 := Y2
          have X3 := Y3
          have B := B2
          clear Y0 Y1 Y2 Y3 B2
          have k00 := X0.c0
          have k01 := X0.c1
          have k10 := X1.c0
          have k11 := X1.c1
          have k20 := X2.c0
          have k21 := X2.c1
          have k30 := X3.c0
          have k31 := X3.c1
          go_wp2_with fail
          refine ((C3).out _).mono ?_
          rintro e w2 ⟨rfl, hb⟩
          clear k00 k01 k10 k11 k20 k21 k30 k31
          have Y0 := BX.bl X0 hb
          have Y1 := BX.bl X1 hb
          have Y2 := BX.bl X2 hb
          have Y3 := BX.bl X3 hb
          have B2 := Bl.trans B hb
          clear X0 X1 X2 X3 B hb
          have X0 := Y0
          have X1 := Y1
          have X2 := Y2
          have X3 := Y3
          have B := B2
          clear Y0 Y1 Y2 Y3 B2
          have k00 := X0.c0
          have k01 := X0.c1
          have k10 := X1.c0
          have k11 := X1.c1
          have k20 := X2.c0
          have k21 := X2.c1
          have k30 := X3.c0
          have k31 := X3.c1
          go_wp2_with fail
          refine ((C4).out _).mono ?_
          rintro e w2 ⟨rfl, hb⟩
          clear k00 k01 k10 k11 k20 k21 k30 k31
          have Y0 := BX.bl X0 hb
          have Y1 := BX.bl X1 hb
          have Y2 := BX.bl X2 hb
          have Y3 := BX.bl X3 hb
          have B2 := Bl.trans B hb
          clear X0 X1 X2 X3 B hb
          have X0 := Y0
          have X1 := Y1
          have X2 := Y2
          have X3 := Y3
          have B := B2
          clear Y0 Y1 Y2 Y3 B2
          have k00 := X0.c0
          have k01 := X0.c1
          have k10 := X1.c0
          have k11 := X1.c1
          have k20 := X2.c0
          have k21 := X2.c1
          have k30 := X3.c0
          have k31 := X3.c1
          go_wp2_with fail
          refine ((CS).out _).mono ?_
          rintro e w2 ⟨rfl, hb⟩
          have B := Bl.trans B hb
          go_wp2_with fail
          go_ret
          exact ⟨ret1 FIN.out.symm, B⟩
        · have FIN := hid (show V = 0 by rw [MT.out, if_pos hz, if_neg (fun h => z3 h.2.2.2)])
          have tz : (P3 == 0) = false := beq_eq_false_iff_ne.2 z3
          subst hz
          subst z0
          subst z1
          subst z2
          go_enter Try.func18, Try.ntmps18
          go_wp2_with fail
          refine (N1.out _ _ _ (by simp)).mono ?_
          rintro e w1 ⟨rfl, hw⟩
          have B : Bl w w1 := by rw [← hw]; exact (((((Bl.refl w).alloc _).alloc _).alloc _).alloc _).alloc _
          obtain ⟨X0, X1, X2, X3⟩ := box4 (show Bl _ w1 by rw [← hw]; exact (Bl.refl _).alloc _)
          clear hw
          have k00 := X0.c0
          have k01 := X0.c1
          have k10 := X1.c0
          have k11 := X1.c1
          have k20 := X2.c0
          have k21 := X2.c1
          have k30 := X3.c0
          have k31 := X3.c1
          go_wp2_with fail
          refine ((C0).out _).mono ?_
          rintro e w2 ⟨rfl, hb⟩
          clear k00 k01 k10 k11 k20 k21 k30 k31
          have Y0 := BX.bl X0 hb
          have Y1 := BX.bl X1 hb
          have Y2 := BX.bl X2 hb
          have Y3 := BX.bl X3 hb
          have B2 := Bl.trans B hb
          clear X0 X1 X2 X3 B hb
          have X0 := Y0
          have X1 := Y1
          have X2 := Y2
          have X3 := Y3
          have B := B2
          clear Y0 Y1 Y2 Y3 B2
          have k00 := X0.c0
          have k01 := X0.c1
          have k10 := X1.c0
          have k11 := X1.c1
          have k20 := X2.c0
          have k21 := X2.c1
          have k30 := X3.c0
          have k31 := X3.c1
          go_wp2_with fail
          refine ((C1).out _).mono ?_
          rintro e w2 ⟨rfl, hb⟩
          clear k00 k01 k10 k11 k20 k21 k30 k31
          have Y0 := BX.bl X0 hb
          have Y1 := BX.bl X1 hb
          have Y2 := BX.bl X2 hb
          have Y3 := BX.bl X3 hb
          have B2 := Bl.trans B hb
          clear X0 X1 X2 X3 B hb
          have X0 := Y0
          have X1 := Y1
          have X2 := Y2
          have X3 := Y3
          have B := B2
          clear Y0 Y1 Y2 Y3 B2
          have k00 := X0.c0
          have k01 := X0.c1
          have k10 := X1.c0
          have k11 := X1.c1
          have k20 := X2.c0
          have k21 := X2.c1
          have k30 := X3.c0
          have k31 := X3.c1
          go_wp2_with fail
          refine ((C2).out _).mono ?_
          rintro e w2 ⟨rfl, hb⟩
          clear k00 k01 k10 k11 k20 k21 k30 k31
          have Y0 := BX.bl X0 hb
          have Y1 := BX.bl X1 hb
          have Y2 := BX.bl X2 hb
          have Y3 := BX.bl X3 hb
          have B2 := Bl.trans B hb
          clear X0 X1 X2 X3 B hb
          have X0 := Y0
          have X1 := Y1
          have X2 := Y2
          have X3 := Y3
          have B := B2
          clear Y0 Y1 Y2 Y3 B2
          have k00 := X0.c0
          have k01 := X0.c1
          have k10 := X1.c0
          have k11 := X1.c1
          have k20 := X2.c0
          have k21 := X2.c1
          have k30 := X3.c0
          have k31 := X3.c1
          go_wp2_with fail
          refine ((C3).out _).mono ?_
          rintro e w2 ⟨rfl, hb⟩
          clear k00 k01 k10 k11 k20 k21 k30 k31
          have Y0 := BX.bl X0 hb
          have Y1 := BX.bl X1 hb
          have Y2 := BX.bl X2 hb
          have Y3 := BX.bl X3 hb
          have B2 := Bl.trans B hb
          clear X0 X1 X2 X3 B hb
          have X0 := Y0
          have X1 := Y1
          have X2 := Y2
          have X3 := Y3
          have B := B2
          clear Y0 Y1 Y2 Y3 B2
          have k00 := X0.c0
          have k01 := X0.c1
          have k10 := X1.c0
          have k11 := X1.c1
          have k20 := X2.c0
          have k21 := X2.c1
          have k30 := X3.c0
          have k31 := X3.c1
          go_wp2_with fail
          refine ((C4).out _).mono ?_
          rintro e w2 ⟨rfl, hb⟩
          clear k00 k01 k10 k11 k20 k21 k30 k31
          have Y0 := BX.bl X0 hb
          have Y1 := BX.bl X1 hb
          have Y2 := BX.bl X2 hb
          have Y3 := BX.bl X3 hb
          have B2 := Bl.trans B hb
          clear X0 X1 X2 X3 B hb
          have X0 := Y0
          have X1 := Y1
          have X2 := Y2
          have X3 := Y3
          have B := B2
          clear Y0 Y1 Y2 Y3 B2
          have k00 := X0.c0
          have k01 := X0.c1
          have k10 := X1.c0
          have k11 := X1.c1
          have k20 := X2.c0
          have k21 := X2.c1
          have k30 := X3.c0
          have k31 := X3.c1
          go_wp2_with fail
          go_ret
          exact ⟨ret1 FIN.out.symm, B⟩
      · have FIN := hid (show V = 0 by rw [MT.out, if_pos hz, if_neg (fun h => z2 h.2.2.1)])
        have tz : (P2 == 0) = false := beq_eq_false_iff_ne.2 z2
        subst hz
        subst z0
        subst z1
        go_enter Try.func18, Try.ntmps18
        go_wp2_with fail
        refine (N1.out _ _ _ (by simp)).mono ?_
        rintro e w1 ⟨rfl, hw⟩
        have B : Bl w w1 := by rw [← hw]; exact (((((Bl.refl w).alloc _).alloc _).alloc _).alloc _).alloc _
        obtain ⟨X0, X1, X2, X3⟩ := box4 (show Bl _ w1 by rw [← hw]; exact (Bl.refl _).alloc _)
        clear hw
        have k00 := X0.c0
        have k01 := X0.c1
        have k10 := X1.c0
        have k11 := X1.c1
        have k20 := X2.c0
        have k21 := X2.c1
        have k30 := X3.c0
        have k31 := X3.c1
        go_wp2_with fail
        refine ((C0).out _).mono ?_
        rintro e w2 ⟨rfl, hb⟩
        clear k00 k01 k10 k11 k20 k21 k30 k31
        have Y0 := BX.bl X0 hb
        have Y1 := BX.bl X1 hb
        have Y2 := BX.bl X2 hb
        have Y3 := BX.bl X3 hb
        have B2 := Bl.trans B hb
        clear X0 X1 X2 X3 B hb
        have X0 := Y0
        have X1 := Y1
        have X2 := Y2
        have X3 := Y3
        have B := B2
        clear Y0 Y1 Y2 Y3 B2
        have k00 := X0.c0
        have k01 := X0.c1
        have k10 := X1.c0
        have k11 := X1.c1
        have k20 := X2.c0
        have k21 := X2.c1
        have k30 := X3.c0
        have k31 := X3.c1
        go_wp2_with fail
        refine ((C1).out _).mono ?_
        rintro e w2 ⟨rfl, hb⟩
        clear k00 k01 k10 k11 k20 k21 k30 k31
        have Y0 := BX.bl X0 hb
        have Y1 := BX.bl X1 hb
        have Y2 := BX.bl X2 hb
        have Y3 := BX.bl X3 hb
        have B2 := Bl.trans B hb
        clear X0 X1 X2 X3 B hb
        have X0 := Y0
        have X1 := Y1
        have X2 := Y2
        have X3 := Y3
        have B := B2
        clear Y0 Y1 Y2 Y3 B2
        have k00 := X0.c0
        have k01 := X0.c1
        have k10 := X1.c0
        have k11 := X1.c1
        have k20 := X2.c0
        have k21 := X2.c1
        have k30 := X3.c0
        have k31 := X3.c1
        go_wp2_with fail
        refine ((C2).out _).mono ?_
        rintro e w2 ⟨rfl, hb⟩
        clear k00 k01 k10 k11 k20 k21 k30 k31
        have Y0 := BX.bl X0 hb
        have Y1 := BX.bl X1 hb
        have Y2 := BX.bl X2 hb
        have Y3 := BX.bl X3 hb
        have B2 := Bl.trans B hb
        clear X0 X1 X2 X3 B hb
        have X0 := Y0
        have X1 := Y1
        have X2 := Y2
        have X3 := Y3
        have B := B2
        clear Y0 Y1 Y2 Y3 B2
        have k00 := X0.c0
        have k01 := X0.c1
        have k10 := X1.c0
        have k11 := X1.c1
        have k20 := X2.c0
        have k21 := X2.c1
        have k30 := X3.c0
        have k31 := X3.c1
        go_wp2_with fail
        refine ((C3).out _).mono ?_
        rintro e w2 ⟨rfl, hb⟩
        clear k00 k01 k10 k11 k20 k21 k30 k31
        have Y0 := BX.bl X0 hb
        have Y1 := BX.bl X1 hb
        have Y2 := BX.bl X2 hb
        have Y3 := BX.bl X3 hb
        have B2 := Bl.trans B hb
        clear X0 X1 X2 X3 B hb
        have X0 := Y0
        have X1 := Y1
        have X2 := Y2
        have X3 := Y3
        have B := B2
        clear Y0 Y1 Y2 Y3 B2
        have k00 := X0.c0
        have k01 := X0.c1
        have k10 := X1.c0
        have k11 := X1.c1
        have k20 := X2.c0
        have k21 := X2.c1
        have k30 := X3.c0
        have k31 := X3.c1
        go_wp2_with fail
        go_ret
        exact ⟨ret1 FIN.out.symm, B⟩
    · have FIN := hid (show V = 0 by rw [MT.out, if_pos hz, if_neg (fun h => z1 h.2.1)])
      have tz : (P1 == 0) = false := beq_eq_false_iff_ne.2 z1
      subst hz
      subst z0
      go_enter Try.func18, Try.ntmps18
      go_wp2_with fail
      refine (N1.out _ _ _ (by simp)).mono ?_
      rintro e w1 ⟨rfl, hw⟩
      have B : Bl w w1 := by rw [← hw]; exact (((((Bl.refl w).alloc _).alloc _).alloc _).alloc _).alloc _
      obtain ⟨X0, X1, X2, X3⟩ := box4 (show Bl _ w1 by rw [← hw]; exact (Bl.refl _).alloc _)
      clear hw
      have k00 := X0.c0
      have k01 := X0.c1
      have k10 := X1.c0
      have k11 := X1.c1
      have k20 := X2.c0
      have k21 := X2.c1
      have k30 := X3.c0
      have k31 := X3.c1
      go_wp2_with fail
      refine ((C0).out _).mono ?_
      rintro e w2 ⟨rfl, hb⟩
      clear k00 k01 k10 k11 k20 k21 k30 k31
      have Y0 := BX.bl X0 hb
      have Y1 := BX.bl X1 hb
      have Y2 := BX.bl X2 hb
      have Y3 := BX.bl X3 hb
      have B2 := Bl.trans B hb
      clear X0 X1 X2 X3 B hb
      have X0 := Y0
      have X1 := Y1
      have X2 := Y2
      have X3 := Y3
      have B := B2
      clear Y0 Y1 Y2 Y3 B2
      have k00 := X0.c0
      have k01 := X0.c1
      have k10 := X1.c0
      have k11 := X1.c1
      have k20 := X2.c0
      have k21 := X2.c1
      have k30 := X3.c0
      have k31 := X3.c1
      go_wp2_with fail
      refine ((C1).out _).mono ?_
      rintro e w2 ⟨rfl, hb⟩
      clear k00 k01 k10 k11 k20 k21 k30 k31
      have Y0 := BX.bl X0 hb
      have Y1 := BX.bl X1 hb
      have Y2 := BX.bl X2 hb
      have Y3 := BX.bl X3 hb
      have B2 := Bl.trans B hb
      clear X0 X1 X2 X3 B hb
      have X0 := Y0
      have X1 := Y1
      have X2 := Y2
      have X3 := Y3
      have B := B2
      clear Y0 Y1 Y2 Y3 B2
      have k00 := X0.c0
      have k01 := X0.c1
      have k10 := X1.c0
      have k11 := X1.c1
      have k20 := X2.c0
      have k21 := X2.c1
      have k30 := X3.c0
      have k31 := X3.c1
      go_wp2_with fail
      refine ((C2).out _).mono ?_
      rintro e w2 ⟨rfl, hb⟩
      clear k00 k01 k10 k11 k20 k21 k30 k31
      have Y0 := BX.bl X0 hb
      have Y1 := BX.bl X1 hb
      have Y2 := BX.bl X2 hb
      have Y3 := BX.bl X3 hb
      have B2 := Bl.trans B hb
      clear X0 X1 X2 X3 B hb
      have X0 := Y0
      have X1 := Y1
      have X2 := Y2
      have X3 := Y3
      have B := B2
      clear Y0 Y1 Y2 Y3 B2
      have k00 := X0.c0
      have k01 := X0.c1
      have k10 := X1.c0
      have k11 := X1.c1
      have k20 := X2.c0
      have k21 := X2.c1
      have k30 := X3.c0
      have k31 := X3.c1
      go_wp2_with fail
      go_ret
      exact ⟨ret1 FIN.out.symm, B⟩
  · have FIN := hid (show V = 0 by rw [MT.out, if_pos hz, if_neg (fun h => z0 h.1)])
    have tz : (P0 == 0) = false := beq_eq_false_iff_ne.2 z0
    subst hz
    go_enter Try.func18, Try.ntmps18
    go_wp2_with fail
    refine (N1.out _ _ _ (by simp)).mono ?_
    rintro e w1 ⟨rfl, hw⟩
    have B : Bl w w1 := by rw [← hw]; exact (((((Bl.refl w).alloc _).alloc _).alloc _).alloc _).alloc _
    obtain ⟨X0, X1, X2, X3⟩ := box4 (show Bl _ w1 by rw [← hw]; exact (Bl.refl _).alloc _)
    clear hw
    have k00 := X0.c0
    have k01 := X0.c1
    have k10 := X1.c0
    have k11 := X1.c1
    have k20 := X2.c0
    have k21 := X2.c1
    have k30 := X3.c0
    have k31 := X3.c1
    go_wp2_with fail
    refine ((C0).out _).mono ?_
    rintro e w2 ⟨rfl, hb⟩
    clear k00 k01 k10 k11 k20 k21 k30 k31
    have Y0 := BX.bl X0 hb
    have Y1 := BX.bl X1 hb
    have Y2 := BX.bl X2 hb
    have Y3 := BX.bl X3 hb
    have B2 := Bl.trans B hb
    clear X0 X1 X2 X3 B hb
    have X0 := Y0
    have X1 := Y1
    have X2 := Y2
    have X3 := Y3
    have B := B2
    clear Y0 Y1 Y2 Y3 B2
    have k00 := X0.c0
    have k01 := X0.c1
    have k10 := X1.c0
    have k11 := X1.c1
    have k20 := X2.c0
    have k21 := X2.c1
    have k30 := X3.c0
    have k31 := X3.c1
    go_wp2_with fail
    refine ((C1).out _).mono ?_
    rintro e w2 ⟨rfl, hb⟩
    clear k00 k01 k10 k11 k20 k21 k30 k31
    have Y0 := BX.bl X0 hb
    have Y1 := BX.bl X1 hb
    have Y2 := BX.bl X2 hb
    have Y3 := BX.bl X3 hb
    have B2 := Bl.trans B hb
    clear X0 X1 X2 X3 B hb
    have X0 := Y0
    have X1 := Y1
    have X2 := Y2
    have X3 := Y3
    have B := B2
    clear Y0 Y1 Y2 Y3 B2
    have k00 := X0.c0
    have k01 := X0.c1
    have k10 := X1.c0
    have k11 := X1.c1
    have k20 := X2.c0
    have k21 := X2.c1
    have k30 := X3.c0
    have k31 := X3.c1
    go_wp2_with fail
    go_ret
    exact ⟨ret1 FIN.out.symm, B⟩

end Go.Proofs.Ytjdkgndecnhokaa.Geom
