/- GeomMeets returns true for all points: Meet answers as the reference does, in whatever order and direction the segments are given. No condition. -/
import Derived.Test.YtjdkgndecnhokaaEAwake
import Derived.Test.YtjdkgndecnhokaaWArgs
import Derived.ChangeOld
namespace Go.Proofs.Ytjdkgndecnhokaa.GeomMeets
open Go.ChangeShapes Go.WideShapes Go.ChangeAt Go.RowKit
open Go.ChangeMaps (open_string shut_string)
open Go.Proofs.Ytjdkgndecnhokaa.Wire
open Go.Proofs.Ytjdkgndecnhokaa.Geom
set_option linter.unusedVariables false
set_option linter.unusedSimpArgs false

set_option maxRecDepth 100000 in
set_option maxHeartbeats 2000000 in
theorem walk (a0_0 a0_1 : Int) (a1_0 a1_1 : Int) (a2_0 a2_1 : Int) (a3_0 a3_1 : Int) (w : World) (w0_0 : (Lit.int .i64 a0_0).wf = true) (w0_1 : (Lit.int .i64 a0_1).wf = true) (w1_0 : (Lit.int .i64 a1_0).wf = true) (w1_1 : (Lit.int .i64 a1_1).wf = true) (w2_0 : (Lit.int .i64 a2_0).wf = true) (w2_1 : (Lit.int .i64 a2_1).wf = true) (w3_0 : (Lit.int .i64 a3_0).wf = true) (w3_1 : (Lit.int .i64 a3_1).wf = true) :
    Calls Try.prog 4 #[.agg #[.int .i64 a0_0, .int .i64 a0_1], .agg #[.int .i64 a1_0, .int .i64 a1_1], .agg #[.int .i64 a2_0, .int .i64 a2_1], .agg #[.int .i64 a3_0, .int .i64 a3_1]] w fun e w' => e = .returned (.bool true) ∧ Bl w w' := by
  have d0 := hid (fun w' => RMeet_any (a0_0, a0_1) (a1_0, a1_1) (a2_0, a2_1) (a3_0, a3_1) w')
  have c0 := hid (fun w' => Meet_any (a0_0, a0_1) (a1_0, a1_1) (a2_0, a2_1) (a3_0, a3_1) w')
  have c1' := fun w' => Meet_any (a2_0, a2_1) (a3_0, a3_1) (a0_0, a0_1) (a1_0, a1_1) w'
  rw [mt_swap] at c1'
  have c2' := fun w' => Meet_any (a1_0, a1_1) (a0_0, a0_1) (a2_0, a2_1) (a3_0, a3_1) w'
  rw [mt_rev] at c2'
  have c3' := fun w' => Meet_any (a1_0, a1_1) (a0_0, a0_1) (a3_0, a3_1) (a2_0, a2_1) w'
  rw [mt_rev2] at c3'
  have c1 := hid c1'
  have c2 := hid c2'
  have c3 := hid c3'
  clear c1' c2' c3'
  generalize mt (a0_0, a0_1) (a1_0, a1_1) (a2_0, a2_1) (a3_0, a3_1) = E at *
  have aw := hid (fun w' => awake_any w')
  have mixed : Try.prog.follows .mixedOrders = true := by kernel_rfl
  go_enter Try.func4, Try.ntmps4
  go_wp2_with fail
  obtain ⟨v0, hv0⟩ : ∃ v0, v0 = ((((w.alloc (.cells #[.int .i64 a0_0, .int .i64 a0_1] 23)).alloc (.cells #[.int .i64 a1_0, .int .i64 a1_1] 23)).alloc (.cells #[.int .i64 a2_0, .int .i64 a2_1] 23)).alloc (.cells #[.int .i64 a3_0, .int .i64 a3_1] 23)) := ⟨_, rfl⟩
  have hB0 : Bl w v0 := by rw [hv0]; exact ((((Bl.refl w).alloc _).alloc _).alloc _).alloc _
  have X0_0 : BX v0 (w.heap.size) a0_0 a0_1 := by rw [hv0]; exact (((BX.new (by simp)).al _).al _).al _
  have X1_0 : BX v0 (w.heap.size + 1) a1_0 a1_1 := by rw [hv0]; exact ((BX.new (by simp)).al _).al _
  have X2_0 : BX v0 (w.heap.size + 1 + 1) a2_0 a2_1 := by rw [hv0]; exact (BX.new (by simp)).al _
  have X3_0 : BX v0 (w.heap.size + 1 + 1 + 1) a3_0 a3_1 := by rw [hv0]; exact BX.new (by simp)
  have HZ := hid (show v0.heap.size = w.heap.size + 1 + 1 + 1 + 1 by rw [hv0]; simp)
  rw [← hv0]
  clear hv0
  have fX0_0 := X0_0.c0
  have fX0_1 := X0_0.c1
  have fX1_0 := X1_0.c0
  have fX1_1 := X1_0.c1
  have fX2_0 := X2_0.c0
  have fX2_1 := X2_0.c1
  have fX3_0 := X3_0.c0
  have fX3_1 := X3_0.c1
  go_wp2_with fail
  refine (d0.out _).mono ?_
  rintro e v1 ⟨rfl, b1⟩
  clear fX0_0 fX0_1 fX1_0 fX1_1 fX2_0 fX2_1 fX3_0 fX3_1
  have X0_1 := X0_0.bl b1
  have X1_1 := X1_0.bl b1
  have X2_1 := X2_0.bl b1
  have X3_1 := X3_0.bl b1
  have hB1 := Bl.trans hB0 b1
  clear X0_0 X1_0 X2_0 X3_0 hB0 b1
  have fX0_0 := X0_1.c0
  have fX0_1 := X0_1.c1
  have fX1_0 := X1_1.c0
  have fX1_1 := X1_1.c1
  have fX2_0 := X2_1.c0
  have fX2_1 := X2_1.c1
  have fX3_0 := X3_1.c0
  have fX3_1 := X3_1.c1
  go_wp2_with fail
  refine (c0.out _).mono ?_
  rintro e v2 ⟨rfl, b2⟩
  clear fX0_0 fX0_1 fX1_0 fX1_1 fX2_0 fX2_1 fX3_0 fX3_1
  have X0_2 := X0_1.bl b2
  have X1_2 := X1_1.bl b2
  have X2_2 := X2_1.bl b2
  have X3_2 := X3_1.bl b2
  have hB2 := Bl.trans hB1 b2
  clear X0_1 X1_1 X2_1 X3_1 hB1 b2
  have fX0_0 := X0_2.c0
  have fX0_1 := X0_2.c1
  have fX1_0 := X1_2.c0
  have fX1_1 := X1_2.c1
  have fX2_0 := X2_2.c0
  have fX2_1 := X2_2.c1
  have fX3_0 := X3_2.c0
  have fX3_1 := X3_2.c1
  go_wp2_with fail
  refine (c1.out _).mono ?_
  rintro e v3 ⟨rfl, b3⟩
  clear fX0_0 fX0_1 fX1_0 fX1_1 fX2_0 fX2_1 fX3_0 fX3_1
  have X0_3 := X0_2.bl b3
  have X1_3 := X1_2.bl b3
  have X2_3 := X2_2.bl b3
  have X3_3 := X3_2.bl b3
  have hB3 := Bl.trans hB2 b3
  clear X0_2 X1_2 X2_2 X3_2 hB2 b3
  have fX0_0 := X0_3.c0
  have fX0_1 := X0_3.c1
  have fX1_0 := X1_3.c0
  have fX1_1 := X1_3.c1
  have fX2_0 := X2_3.c0
  have fX2_1 := X2_3.c1
  have fX3_0 := X3_3.c0
  have fX3_1 := X3_3.c1
  go_wp2_with fail
  refine (c2.out _).mono ?_
  rintro e v4 ⟨rfl, b4⟩
  clear fX0_0 fX0_1 fX1_0 fX1_1 fX2_0 fX2_1 fX3_0 fX3_1
  have X0_4 := X0_3.bl b4
  have X1_4 := X1_3.bl b4
  have X2_4 := X2_3.bl b4
  have X3_4 := X3_3.bl b4
  have hB4 := Bl.trans hB3 b4
  clear X0_3 X1_3 X2_3 X3_3 hB3 b4
  have fX0_0 := X0_4.c0
  have fX0_1 := X0_4.c1
  have fX1_0 := X1_4.c0
  have fX1_1 := X1_4.c1
  have fX2_0 := X2_4.c0
  have fX2_1 := X2_4.c1
  have fX3_0 := X3_4.c0
  have fX3_1 := X3_4.c1
  go_wp2_with fail
  refine (c3.out _).mono ?_
  rintro e v5 ⟨rfl, b5⟩
  clear fX0_0 fX0_1 fX1_0 fX1_1 fX2_0 fX2_1 fX3_0 fX3_1
  have X0_5 := X0_4.bl b5
  have X1_5 := X1_4.bl b5
  have X2_5 := X2_4.bl b5
  have X3_5 := X3_4.bl b5
  have hB5 := Bl.trans hB4 b5
  clear X0_4 X1_4 X2_4 X3_4 hB4 b5
  have fX0_0 := X0_5.c0
  have fX0_1 := X0_5.c1
  have fX1_0 := X1_5.c0
  have fX1_1 := X1_5.c1
  have fX2_0 := X2_5.c0
  have fX2_1 := X2_5.c1
  have fX3_0 := X3_5.c0
  have fX3_1 := X3_5.c1
  go_wp2_with fail
  refine (aw.out _).mono ?_
  rintro e v6 ⟨rfl, b6⟩
  clear fX0_0 fX0_1 fX1_0 fX1_1 fX2_0 fX2_1 fX3_0 fX3_1
  have X0_6 := X0_5.bl b6
  have X1_6 := X1_5.bl b6
  have X2_6 := X2_5.bl b6
  have X3_6 := X3_5.bl b6
  have hB6 := Bl.trans hB5 b6
  clear X0_5 X1_5 X2_5 X3_5 hB5 b6
  have fX0_0 := X0_6.c0
  have fX0_1 := X0_6.c1
  have fX1_0 := X1_6.c0
  have fX1_1 := X1_6.c1
  have fX2_0 := X2_6.c0
  have fX2_1 := X2_6.c1
  have fX3_0 := X3_6.c0
  have fX3_1 := X3_6.c1
  go_wp2_with fail
  go_ret
  exact ⟨rfl, hB6⟩

set_option maxRecDepth 100000 in
theorem lifted (os : Os) (started : os.Started) (H : Type) (enc : TypeId × Value → H) :
    ReturnsInHanded {} Try.checked os 4 .any (Rows.geomMeetsSpec.pre6 enc Try.prog Try.f4 Rows.geomMeetsRow.domain false) (Rows.geomMeetsSpec.post enc Try.prog Try.f4 false true false false) := by
  refine returnsInHanded_of_change (C := Try.checked) own started (by kernel_rfl) Try.func4
    (ChangeSpec.witness6 (enc := enc) (C := Try.checked) false ⟨#[], #[.agg #[.int .i64 0, .int .i64 0], .agg #[.int .i64 0, .int .i64 0], .agg #[.int .i64 0, .int .i64 0], .agg #[.int .i64 0, .int .i64 0]], []⟩ 8 (by kernel_rfl) (by kernel_rfl) (by kernel_rfl) (by kernel_rfl)) ?_
  intro W base args ds gs before hval0 hW _ _
  have hval : ∀ (j : Nat) t v, Try.f4.params[j]? = some t → args[j]? = some v → Value.okWide Try.prog W .any base t v := hval0
  have hW' := hW
  obtain ⟨p, q, hA0, hV, rfl, hfz, hnd⟩ := hW
  have hA : DataW.TrodAll enc Try.prog W 0 (fun _ => true) true Try.f4.params.toList args.toList ds p := hA0
  rw [Try.params4] at hA hval
  obtain ⟨v0, vs0, d0, ds0, p0, q0, hargs, rfl, rfl, h0, r0⟩ := trodAll_cons hA
  obtain ⟨v1, vs1, d1, ds1, p1, q1, rfl, rfl, rfl, h1, r1⟩ := trodAll_cons r0
  obtain ⟨v2, vs2, d2, ds2, p2, q2, rfl, rfl, rfl, h2, r2⟩ := trodAll_cons r1
  obtain ⟨v3, vs3, d3, ds3, p3, q3, rfl, rfl, rfl, h3, r3⟩ := trodAll_cons r2
  obtain ⟨rfl, rfl, rfl⟩ := trodAll_nil r3
  obtain rfl : args = #[v0, v1, v2, v3] := by cases args; simp_all
  obtain ⟨rfl, rfl⟩ := trodVars_none hV
  have k0 := h0
  obtain ⟨a0_0, a0_1, rfl, rfl, rfl, w0_0, w0_1⟩ := open_st2 Try.underlying23 (by kernel_rfl) ⟨rfl, rfl⟩ ⟨rfl, rfl⟩ (hval 0 23 v0 rfl rfl) h0
  have k1 := h1
  obtain ⟨a1_0, a1_1, rfl, rfl, rfl, w1_0, w1_1⟩ := open_st2 Try.underlying23 (by kernel_rfl) ⟨rfl, rfl⟩ ⟨rfl, rfl⟩ (hval 1 23 v1 rfl rfl) h1
  have k2 := h2
  obtain ⟨a2_0, a2_1, rfl, rfl, rfl, w2_0, w2_1⟩ := open_st2 Try.underlying23 (by kernel_rfl) ⟨rfl, rfl⟩ ⟨rfl, rfl⟩ (hval 2 23 v2 rfl rfl) h2
  have k3 := h3
  obtain ⟨a3_0, a3_1, rfl, rfl, rfl, w3_0, w3_1⟩ := open_st2 Try.underlying23 (by kernel_rfl) ⟨rfl, rfl⟩ ⟨rfl, rfl⟩ (hval 3 23 v3 rfl rfl) h3
  clear hA0 hval0
  refine (walk a0_0 a0_1 a1_0 a1_1 a2_0 a2_1 a3_0 a3_1 W w0_0 w0_1 w1_0 w1_1 w2_0 w2_1 w3_0 w3_1).mono fun e W' ⟨he, bel⟩ => ?_
  subst he
  exact ⟨_, rfl, _, _, _, [], _, [], hW', trodAll_mk1 (shut_bool Try.underlying4 _), (trodAll_cons_mk (Below.trod laidOut (by kernel_rfl) (of_decide_eq_true (by kernel_rfl)) k0 bel (fun x hx => by cases hx)) (trodAll_cons_mk (Below.trod laidOut (by kernel_rfl) (of_decide_eq_true (by kernel_rfl)) k1 bel (fun x hx => by cases hx)) (trodAll_cons_mk (Below.trod laidOut (by kernel_rfl) (of_decide_eq_true (by kernel_rfl)) k2 bel (fun x hx => by cases hx)) (trodAll_cons_mk (Below.trod laidOut (by kernel_rfl) (of_decide_eq_true (by kernel_rfl)) k3 bel (fun x hx => by cases hx)) trodAll_mk0)))), rfl, Below.frame bel _, fun h => by cases h⟩

theorem holds : Rows.GeomMeetsSaid :=
  OpenClaim.holds_of_wide 4 Try.f4 rfl rfl rfl rfl rfl rfl rfl ⟨rfl, rfl, rfl, rfl, rfl⟩ rfl rfl rfl rfl rfl (by kernel_rfl) Try.func4 (by kernel_rfl)
    (of_decide_eq_true (by kernel_rfl)) (by unfold Func.isWrapper; first | (rw [if_pos (by decide +kernel)]; kernel_rfl) | (rw [if_neg (by decide +kernel)]; exact ⟨rfl, rfl⟩))
    (fun os started H enc _ => lifted os started H enc)
end Go.Proofs.Ytjdkgndecnhokaa.GeomMeets
