/- GeomDists returns true for all points: Dist answers as the reference does. No condition. -/
import Derived.Test.YtjdkgndecnhokaaEAwake
import Derived.Test.YtjdkgndecnhokaaWArgs
import Derived.ChangeOld
namespace Go.Proofs.Ytjdkgndecnhokaa.GeomDists
open Go.ChangeShapes Go.WideShapes Go.ChangeAt Go.RowKit
open Go.ChangeMaps (open_string shut_string)
open Go.Proofs.Ytjdkgndecnhokaa.Wire
open Go.Proofs.Ytjdkgndecnhokaa.Geom
set_option linter.unusedVariables false
set_option linter.unusedSimpArgs false

set_option maxRecDepth 100000 in
set_option maxHeartbeats 2000000 in
theorem walk (a0_0 a0_1 : Int) (a1_0 a1_1 : Int) (a2_0 a2_1 : Int) (w : World) (w0_0 : (Lit.int .i64 a0_0).wf = true) (w0_1 : (Lit.int .i64 a0_1).wf = true) (w1_0 : (Lit.int .i64 a1_0).wf = true) (w1_1 : (Lit.int .i64 a1_1).wf = true) (w2_0 : (Lit.int .i64 a2_0).wf = true) (w2_1 : (Lit.int .i64 a2_1).wf = true) :
    Calls Try.prog 6 #[.agg #[.int .i64 a0_0, .int .i64 a0_1], .agg #[.int .i64 a1_0, .int .i64 a1_1], .agg #[.int .i64 a2_0, .int .i64 a2_1]] w fun e w' => e = .returned (.bool true) ∧ Bl w w' := by
  have c0' := fun w' => Dist_any (a0_0, a0_1) (a1_0, a1_1) (a2_0, a2_1) w'
  have d0' := fun w' => RDist_any (a0_0, a0_1) (a1_0, a1_1) (a2_0, a2_1) w'
  unfold DisOut at c0' d0'
  generalize dis (a0_0, a0_1) (a1_0, a1_1) (a2_0, a2_1) = E at *
  obtain ⟨E1, E2⟩ := E
  simp only at c0' d0'
  have c0 := hid c0'
  have d0 := hid d0'
  clear c0' d0'
  have aw := hid (fun w' => awake_any w')
  have mixed : Try.prog.follows .mixedOrders = true := by kernel_rfl
  go_enter Try.func6, Try.ntmps6
  go_wp2_with fail
  obtain ⟨v0, hv0⟩ : ∃ v0, v0 = (((w.alloc (.cells #[.int .i64 a0_0, .int .i64 a0_1] 23)).alloc (.cells #[.int .i64 a1_0, .int .i64 a1_1] 23)).alloc (.cells #[.int .i64 a2_0, .int .i64 a2_1] 23)) := ⟨_, rfl⟩
  have hB0 : Bl w v0 := by rw [hv0]; exact (((Bl.refl w).alloc _).alloc _).alloc _
  have X0_0 : BX v0 (w.heap.size) a0_0 a0_1 := by rw [hv0]; exact ((BX.new (by simp)).al _).al _
  have X1_0 : BX v0 (w.heap.size + 1) a1_0 a1_1 := by rw [hv0]; exact (BX.new (by simp)).al _
  have X2_0 : BX v0 (w.heap.size + 1 + 1) a2_0 a2_1 := by rw [hv0]; exact BX.new (by simp)
  have HZ := hid (show v0.heap.size = w.heap.size + 1 + 1 + 1 by rw [hv0]; simp)
  rw [← hv0]
  clear hv0
  have fX0_0 := X0_0.c0
  have fX0_1 := X0_0.c1
  have fX1_0 := X1_0.c0
  have fX1_1 := X1_0.c1
  have fX2_0 := X2_0.c0
  have fX2_1 := X2_0.c1
  clear fX0_0 fX0_1 fX1_0 fX1_1 fX2_0 fX2_1
  have kX0_0 := GB.cell X0_0.lt X0_0.c0
  have kX0_1 := GB.cell X0_0.lt X0_0.c1
  have kX1_0 := GB.cell X1_0.lt X1_0.c0
  have kX1_1 := GB.cell X1_0.lt X1_0.c1
  have kX2_0 := GB.cell X2_0.lt X2_0.c0
  have kX2_1 := GB.cell X2_0.lt X2_0.c1
  refine wp_region_gb mixed (by kernel_rfl) ?_
  try simp only [List.append]
  repeat
    with_reducible refine wpQuiet_step (fun K hK => ?_)
    go_simp
    first
      | (with_reducible refine hK _ ?_; clear hK K)
      | (rw [if_neg]; rotate_left; · (intro h; cases h); with_reducible refine hK _ ?_; clear hK K)
      | (apply Exists.intro; with_reducible refine ⟨fun _ => ?_, hK _ ?_⟩; (first | (go_at_call 24; with_reducible refine gb_of (c0.out _)) | (go_at_call 25; with_reducible refine gb_of (d0.out _)) | (go_at_call 17; with_reducible refine gb_of (aw.out _))); clear hK K)
  with_reducible refine wpQuiet_nil ?_
  intro w' hw'
  obtain ⟨⟨v1, b1⟩, hw''⟩ := hw'
  have hw3 : v1 = w' := hw''.symm
  subst hw3
  clear hw''
  clear kX0_0 kX0_1 kX1_0 kX1_1 kX2_0 kX2_1
  have X0_1 := X0_0.bl b1
  have X1_1 := X1_0.bl b1
  have X2_1 := X2_0.bl b1
  have hB1 := Bl.trans hB0 b1
  clear X0_0 X1_0 X2_0 hB0 b1
  have fX0_0 := X0_1.c0
  have fX0_1 := X0_1.c1
  have fX1_0 := X1_1.c0
  have fX1_1 := X1_1.c1
  have fX2_0 := X2_1.c0
  have fX2_1 := X2_1.c1
  go_wp2_with fail
  go_ret
  exact ⟨rfl, hB1⟩

set_option maxRecDepth 100000 in
theorem lifted (os : Os) (started : os.Started) (H : Type) (enc : TypeId × Value → H) :
    ReturnsInHanded {} Try.checked os 6 .any (Rows.geomDistsSpec.pre6 enc Try.prog Try.f6 Rows.geomDistsRow.domain false) (Rows.geomDistsSpec.post enc Try.prog Try.f6 false true false false) := by
  refine returnsInHanded_of_change (C := Try.checked) own started (by kernel_rfl) Try.func6
    (ChangeSpec.witness6 (enc := enc) (C := Try.checked) false ⟨#[], #[.agg #[.int .i64 0, .int .i64 0], .agg #[.int .i64 0, .int .i64 0], .agg #[.int .i64 0, .int .i64 0]], []⟩ 8 (by kernel_rfl) (by kernel_rfl) (by kernel_rfl) (by kernel_rfl)) ?_
  intro W base args ds gs before hval0 hW _ _
  have hval : ∀ (j : Nat) t v, Try.f6.params[j]? = some t → args[j]? = some v → Value.okWide Try.prog W .any base t v := hval0
  have hW' := hW
  obtain ⟨p, q, hA0, hV, rfl, hfz, hnd⟩ := hW
  have hA : DataW.TrodAll enc Try.prog W 0 (fun _ => true) true Try.f6.params.toList args.toList ds p := hA0
  rw [Try.params6] at hA hval
  obtain ⟨v0, vs0, d0, ds0, p0, q0, hargs, rfl, rfl, h0, r0⟩ := trodAll_cons hA
  obtain ⟨v1, vs1, d1, ds1, p1, q1, rfl, rfl, rfl, h1, r1⟩ := trodAll_cons r0
  obtain ⟨v2, vs2, d2, ds2, p2, q2, rfl, rfl, rfl, h2, r2⟩ := trodAll_cons r1
  obtain ⟨rfl, rfl, rfl⟩ := trodAll_nil r2
  obtain rfl : args = #[v0, v1, v2] := by cases args; simp_all
  obtain ⟨rfl, rfl⟩ := trodVars_none hV
  have k0 := h0
  obtain ⟨a0_0, a0_1, rfl, rfl, rfl, w0_0, w0_1⟩ := open_st2 Try.underlying23 (by kernel_rfl) ⟨rfl, rfl⟩ ⟨rfl, rfl⟩ (hval 0 23 v0 rfl rfl) h0
  have k1 := h1
  obtain ⟨a1_0, a1_1, rfl, rfl, rfl, w1_0, w1_1⟩ := open_st2 Try.underlying23 (by kernel_rfl) ⟨rfl, rfl⟩ ⟨rfl, rfl⟩ (hval 1 23 v1 rfl rfl) h1
  have k2 := h2
  obtain ⟨a2_0, a2_1, rfl, rfl, rfl, w2_0, w2_1⟩ := open_st2 Try.underlying23 (by kernel_rfl) ⟨rfl, rfl⟩ ⟨rfl, rfl⟩ (hval 2 23 v2 rfl rfl) h2
  clear hA0 hval0
  refine (walk a0_0 a0_1 a1_0 a1_1 a2_0 a2_1 W w0_0 w0_1 w1_0 w1_1 w2_0 w2_1).mono fun e W' ⟨he, bel⟩ => ?_
  subst he
  exact ⟨_, rfl, _, _, _, [], _, [], hW', trodAll_mk1 (shut_bool Try.underlying4 _), (trodAll_cons_mk (Below.trod laidOut (by kernel_rfl) (of_decide_eq_true (by kernel_rfl)) k0 bel (fun x hx => by cases hx)) (trodAll_cons_mk (Below.trod laidOut (by kernel_rfl) (of_decide_eq_true (by kernel_rfl)) k1 bel (fun x hx => by cases hx)) (trodAll_cons_mk (Below.trod laidOut (by kernel_rfl) (of_decide_eq_true (by kernel_rfl)) k2 bel (fun x hx => by cases hx)) trodAll_mk0))), rfl, Below.frame bel _, fun h => by cases h⟩

theorem holds : Rows.GeomDistsSaid :=
  OpenClaim.holds_of_wide 6 Try.f6 rfl rfl rfl rfl rfl rfl rfl ⟨rfl, rfl, rfl, rfl, rfl⟩ rfl rfl rfl rfl rfl (by kernel_rfl) Try.func6 (by kernel_rfl)
    (of_decide_eq_true (by kernel_rfl)) (by unfold Func.isWrapper; first | (rw [if_pos (by decide +kernel)]; kernel_rfl) | (rw [if_neg (by decide +kernel)]; exact ⟨rfl, rfl⟩))
    (fun os started H enc _ => lifted os started H enc)
end Go.Proofs.Ytjdkgndecnhokaa.GeomDists
