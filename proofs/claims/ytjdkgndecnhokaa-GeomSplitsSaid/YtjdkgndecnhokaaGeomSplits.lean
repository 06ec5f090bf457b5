/- GeomSplits returns true for all points: the area of a triangle is the sum of the areas that a fourth point forms with its sides; exchanging two corners changes the sign. No condition. -/
import Derived.Test.YtjdkgndecnhokaaEAwake
import Derived.Test.YtjdkgndecnhokaaWArgs
import Derived.ChangeOld
import Derived.Test.YtjdkgndecnhokaaELaws
namespace Go.Proofs.Ytjdkgndecnhokaa.GeomSplits
open Go.ChangeShapes Go.WideShapes Go.ChangeAt Go.RowKit
open Go.ChangeMaps (open_string shut_string)
open Go.Proofs.Ytjdkgndecnhokaa.Wire
open Go.Proofs.Ytjdkgndecnhokaa.Geom
set_option linter.unusedVariables false
set_option linter.unusedSimpArgs false

set_option maxRecDepth 100000 in
set_option maxHeartbeats 2000000 in
theorem walk (a0_0 a0_1 : Int) (a1_0 a1_1 : Int) (a2_0 a2_1 : Int) (a3_0 a3_1 : Int) (w : World) (w0_0 : (Lit.int .i64 a0_0).wf = true) (w0_1 : (Lit.int .i64 a0_1).wf = true) (w1_0 : (Lit.int .i64 a1_0).wf = true) (w1_1 : (Lit.int .i64 a1_1).wf = true) (w2_0 : (Lit.int .i64 a2_0).wf = true) (w2_1 : (Lit.int .i64 a2_1).wf = true) (w3_0 : (Lit.int .i64 a3_0).wf = true) (w3_1 : (Lit.int .i64 a3_1).wf = true) :
    Calls Try.prog 8 #[.agg #[.int .i64 a0_0, .int .i64 a0_1], .agg #[.int .i64 a1_0, .int .i64 a1_1], .agg #[.int .i64 a2_0, .int .i64 a2_1], .agg #[.int .i64 a3_0, .int .i64 a3_1]] w fun e w' => e = .returned (.bool true) ∧ Bl w w' := by
  have n1' := fun w' T g hg => RNear4 (a0_0, a0_1) (a1_0, a1_1) (a2_0, a2_1) (a3_0, a3_1) w' T g hg
  have aw := hid (fun w' => awake_any w')
  by_cases hn : Nrs [(a0_0, a0_1), (a1_0, a1_1), (a2_0, a2_1), (a3_0, a3_1)]
  · rw [decide_eq_true hn] at n1'
    have n1 := hid n1'
    clear n1'
    have h4 := nrs4.1 hn
    obtain ⟨na, nb, nc, np⟩ := h4
    have c0' := fun w' => Twice_any (a0_0, a0_1) (a1_0, a1_1) (a2_0, a2_1) w'
    rw [tw_near (nrs3.2 ⟨na, nb, nc⟩)] at c0'
    have c1' := fun w' => Twice_any (a3_0, a3_1) (a0_0, a0_1) (a1_0, a1_1) w'
    rw [tw_near (nrs3.2 ⟨np, na, nb⟩)] at c1'
    have c2' := fun w' => Twice_any (a3_0, a3_1) (a1_0, a1_1) (a2_0, a2_1) w'
    rw [tw_near (nrs3.2 ⟨np, nb, nc⟩)] at c2'
    have c3' := fun w' => Twice_any (a3_0, a3_1) (a2_0, a2_1) (a0_0, a0_1) w'
    rw [tw_near (nrs3.2 ⟨np, nc, na⟩)] at c3'
    have c4' := fun w' => Twice_any (a1_0, a1_1) (a0_0, a0_1) (a2_0, a2_1) w'
    rw [tw_near (nrs3.2 ⟨nb, na, nc⟩), crs_flip] at c4'
    have c5' := fun w' => Twice_any (a0_0, a0_1) (a2_0, a2_1) (a1_0, a1_1) w'
    rw [tw_near (nrs3.2 ⟨na, nc, nb⟩), crs_flip2] at c5'
    have c6' := fun w' => Twice_any (a1_0, a1_1) (a2_0, a2_1) (a0_0, a0_1) w'
    rw [tw_near (nrs3.2 ⟨nb, nc, na⟩), crs_turn] at c6'
    have hsum := crs_split (a0_0, a0_1) (a1_0, a1_1) (a2_0, a2_1) (a3_0, a3_1)
    have g0 := crs_bound (a := (a0_0, a0_1)) (b := (a1_0, a1_1)) (c := (a0_0, a0_1)) (d := (a2_0, a2_1)) na nb na nc
    have g1 := crs_bound (a := (a3_0, a3_1)) (b := (a0_0, a0_1)) (c := (a3_0, a3_1)) (d := (a1_0, a1_1)) np na np nb
    have g2 := crs_bound (a := (a3_0, a3_1)) (b := (a1_0, a1_1)) (c := (a3_0, a3_1)) (d := (a2_0, a2_1)) np nb np nc
    have g3 := crs_bound (a := (a3_0, a3_1)) (b := (a2_0, a2_1)) (c := (a3_0, a3_1)) (d := (a0_0, a0_1)) np nc np na
    generalize crs (a0_0, a0_1) (a1_0, a1_1) (a0_0, a0_1) (a2_0, a2_1) = E0 at *
    generalize crs (a3_0, a3_1) (a0_0, a0_1) (a3_0, a3_1) (a1_0, a1_1) = E1 at *
    generalize crs (a3_0, a3_1) (a1_0, a1_1) (a3_0, a3_1) (a2_0, a2_1) = E2 at *
    generalize crs (a3_0, a3_1) (a2_0, a2_1) (a3_0, a3_1) (a0_0, a0_1) = E3 at *
    have c0 := hid c0'
    have c1 := hid c1'
    have c2 := hid c2'
    have c3 := hid c3'
    have c4 := hid c4'
    have c5 := hid c5'
    have c6 := hid c6'
    clear c0' c1' c2' c3' c4' c5' c6' na nb nc np hn
    obtain ⟨g0a, g0b⟩ := g0
    obtain ⟨g1a, g1b⟩ := g1
    obtain ⟨g2a, g2b⟩ := g2
    obtain ⟨g3a, g3b⟩ := g3
    have hw1 : IntKind.i64.wrap (IntKind.i64.wrap (E1 + E2) + E3) = E0 := by rw [show IntKind.i64.wrap (E1 + E2) = E1 + E2 from IntWalk.i64_in _ (by omega), IntWalk.i64_in _ (by omega)]; exact hsum
    have hw2 : IntKind.i64.wrap (-E0) = -E0 := IntWalk.i64_in _ (by omega)
    clear hsum g0a g0b g1a g1b g2a g2b g3a g3b
    have mixed : Try.prog.follows .mixedOrders = true := by kernel_rfl
    go_enter Try.func8, Try.ntmps8
    go_wp2_with fail
    obtain ⟨v0, hv0⟩ : ∃ v0, v0 = ((((w.alloc (.cells #[.int .i64 a0_0, .int .i64 a0_1] 23)).alloc (.cells #[.int .i64 a1_0, .int .i64 a1_1] 23)).alloc (.cells #[.int .i64 a2_0, .int .i64 a2_1] 23)).alloc (.cells #[.int .i64 a3_0, .int .i64 a3_1] 23)) := ⟨_, rfl⟩
    have hB0 : Bl w v0 := by rw [hv0]; exact ((((Bl.refl w).alloc _).alloc _).alloc _).alloc _
    have X0_0 : BX v0 (w.heap.size) a0_0 a0_1 := by rw [hv0]; exact (((BX.new (by simp)).al _).al _).al _
    have X1_0 : BX v0 (w.heap.size + 1) a1_0 a1_1 := by rw [hv0]; exact ((BX.new (by simp)).al _).al _
    have X2_0 : BX v0 (w.heap.size + 1 + 1) a2_0 a2_1 := by rw [hv0]; exact (BX.new (by simp)).al _
    have X3_0 : BX v0 (w.heap.size + 1 + 1 + 1) a3_0 a3_1 := by rw [hv0]; exact BX.new (by simp)
    have HZ := hid (show v0.heap.size = w.heap.size + 1 + 1 + 1 + 1 by rw [hv0]; simp)
    rw [← hv0]
    clear hv0
    have fX0_0 := X0_0.c0
    have fX0_1 := X0_0.c1
    have fX1_0 := X1_0.c0
    have fX1_1 := X1_0.c1
    have fX2_0 := X2_0.c0
    have fX2_1 := X2_0.c1
    have fX3_0 := X3_0.c0
    have fX3_1 := X3_0.c1
    go_wp2_with fail
    refine (n1.out _ _ _ (by first | rfl | exact HZ.out.symm)).mono ?_
    rintro e v1 ⟨rfl, hw⟩
    have b1 : Bl v0 v1 := by rw [← hw]; exact (Bl.refl _).alloc _
    clear hw
    clear fX0_0 fX0_1 fX1_0 fX1_1 fX2_0 fX2_1 fX3_0 fX3_1
    have X0_1 := X0_0.bl b1
    have X1_1 := X1_0.bl b1
    have X2_1 := X2_0.bl b1
    have X3_1 := X3_0.bl b1
    have hB1 := Bl.trans hB0 b1
    clear X0_0 X1_0 X2_0 X3_0 hB0 b1
    have fX0_0 := X0_1.c0
    have fX0_1 := X0_1.c1
    have fX1_0 := X1_1.c0
    have fX1_1 := X1_1.c1
    have fX2_0 := X2_1.c0
    have fX2_1 := X2_1.c1
    have fX3_0 := X3_1.c0
    have fX3_1 := X3_1.c1
    go_wp2_with fail
    refine (c0.out _).mono ?_
    rintro e v2 ⟨rfl, b2⟩
    clear fX0_0 fX0_1 fX1_0 fX1_1 fX2_0 fX2_1 fX3_0 fX3_1
    have X0_2 := X0_1.bl b2
    have X1_2 := X1_1.bl b2
    have X2_2 := X2_1.bl b2
    have X3_2 := X3_1.bl b2
    have hB2 := Bl.trans hB1 b2
    clear X0_1 X1_1 X2_1 X3_1 hB1 b2
    have fX0_0 := X0_2.c0
    have fX0_1 := X0_2.c1
    have fX1_0 := X1_2.c0
    have fX1_1 := X1_2.c1
    have fX2_0 := X2_2.c0
    have fX2_1 := X2_2.c1
    have fX3_0 := X3_2.c0
    have fX3_1 := X3_2.c1
    go_wp2_with fail
    clear fX0_0 fX0_1 fX1_0 fX1_1 fX2_0 fX2_1 fX3_0 fX3_1
    have kX0_0 := GB.cell X0_2.lt X0_2.c0
    have kX0_1 := GB.cell X0_2.lt X0_2.c1
    have kX1_0 := GB.cell X1_2.lt X1_2.c0
    have kX1_1 := GB.cell X1_2.lt X1_2.c1
    have kX2_0 := GB.cell X2_2.lt X2_2.c0
    have kX2_1 := GB.cell X2_2.lt X2_2.c1
    have kX3_0 := GB.cell X3_2.lt X3_2.c0
    have kX3_1 := GB.cell X3_2.lt X3_2.c1
    refine wp_region_gb mixed (by kernel_rfl) ?_
    try simp only [List.append]
    repeat
      with_reducible refine wpQuiet_step (fun K hK => ?_)
      go_simp
      first
        | (with_reducible refine hK _ ?_; clear hK K)
        | (rw [if_neg]; rotate_left; · (intro h; cases h); with_reducible refine hK _ ?_; clear hK K)
        | (apply Exists.intro; with_reducible refine ⟨fun _ => ?_, hK _ ?_⟩; (first | (go_at_call 11; with_reducible refine gb_of (c1.out _)) | (go_at_call 11; with_reducible refine gb_of (c2.out _)) | (go_at_call 11; with_reducible refine gb_of (c3.out _)) | (go_at_call 11; with_reducible refine gb_of (c4.out _)) | (go_at_call 11; with_reducible refine gb_of (c5.out _)) | (go_at_call 11; with_reducible refine gb_of (c6.out _)) | (go_at_call 17; with_reducible refine gb_of (aw.out _))); clear hK K)
    with_reducible refine wpQuiet_nil ?_
    intro w' hw'
    obtain ⟨⟨v3, b3⟩, hw''⟩ := hw'
    have hw3 : v3 = w' := hw''.symm
    subst hw3
    clear hw''
    clear kX0_0 kX0_1 kX1_0 kX1_1 kX2_0 kX2_1 kX3_0 kX3_1
    have X0_3 := X0_2.bl b3
    have X1_3 := X1_2.bl b3
    have X2_3 := X2_2.bl b3
    have X3_3 := X3_2.bl b3
    have hB3 := Bl.trans hB2 b3
    clear X0_2 X1_2 X2_2 X3_2 hB2 b3
    have fX0_0 := X0_3.c0
    have fX0_1 := X0_3.c1
    have fX1_0 := X1_3.c0
    have fX1_1 := X1_3.c1
    have fX2_0 := X2_3.c0
    have fX2_1 := X2_3.c1
    have fX3_0 := X3_3.c0
    have fX3_1 := X3_3.c1
    go_wp2_with fail
    go_ret
    exact ⟨rfl, hB3⟩
  · rw [decide_eq_false hn] at n1'
    have n1 := hid n1'
    clear n1'
    have mixed : Try.prog.follows .mixedOrders = true := by kernel_rfl
    go_enter Try.func8, Try.ntmps8
    go_wp2_with fail
    obtain ⟨v0, hv0⟩ : ∃ v0, v0 = ((((w.alloc (.cells #[.int .i64 a0_0, .int .i64 a0_1] 23)).alloc (.cells #[.int .i64 a1_0, .int .i64 a1_1] 23)).alloc (.cells #[.int .i64 a2_0, .int .i64 a2_1] 23)).alloc (.cells #[.int .i64 a3_0, .int .i64 a3_1] 23)) := ⟨_, rfl⟩
    have hB0 : Bl w v0 := by rw [hv0]; exact ((((Bl.refl w).alloc _).alloc _).alloc _).alloc _
    have X0_0 : BX v0 (w.heap.size) a0_0 a0_1 := by rw [hv0]; exact (((BX.new (by simp)).al _).al _).al _
    have X1_0 : BX v0 (w.heap.size + 1) a1_0 a1_1 := by rw [hv0]; exact ((BX.new (by simp)).al _).al _
    have X2_0 : BX v0 (w.heap.size + 1 + 1) a2_0 a2_1 := by rw [hv0]; exact (BX.new (by simp)).al _
    have X3_0 : BX v0 (w.heap.size + 1 + 1 + 1) a3_0 a3_1 := by rw [hv0]; exact BX.new (by simp)
    have HZ := hid (show v0.heap.size = w.heap.size + 1 + 1 + 1 + 1 by rw [hv0]; simp)
    rw [← hv0]
    clear hv0
    have fX0_0 := X0_0.c0
    have fX0_1 := X0_0.c1
    have fX1_0 := X1_0.c0
    have fX1_1 := X1_0.c1
    have fX2_0 := X2_0.c0
    have fX2_1 := X2_0.c1
    have fX3_0 := X3_0.c0
    have fX3_1 := X3_0.c1
    go_wp2_with fail
    refine (n1.out _ _ _ (by first | rfl | exact HZ.out.symm)).mono ?_
    rintro e v1 ⟨rfl, hw⟩
    have b1 : Bl v0 v1 := by rw [← hw]; exact (Bl.refl _).alloc _
    clear hw
    clear fX0_0 fX0_1 fX1_0 fX1_1 fX2_0 fX2_1 fX3_0 fX3_1
    have X0_1 := X0_0.bl b1
    have X1_1 := X1_0.bl b1
    have X2_1 := X2_0.bl b1
    have X3_1 := X3_0.bl b1
    have hB1 := Bl.trans hB0 b1
    clear X0_0 X1_0 X2_0 X3_0 hB0 b1
    have fX0_0 := X0_1.c0
    have fX0_1 := X0_1.c1
    have fX1_0 := X1_1.c0
    have fX1_1 := X1_1.c1
    have fX2_0 := X2_1.c0
    have fX2_1 := X2_1.c1
    have fX3_0 := X3_1.c0
    have fX3_1 := X3_1.c1
    go_wp2_with fail
    refine (aw.out _).mono ?_
    rintro e v2 ⟨rfl, b2⟩
    clear fX0_0 fX0_1 fX1_0 fX1_1 fX2_0 fX2_1 fX3_0 fX3_1
    have X0_2 := X0_1.bl b2
    have X1_2 := X1_1.bl b2
    have X2_2 := X2_1.bl b2
    have X3_2 := X3_1.bl b2
    have hB2 := Bl.trans hB1 b2
    clear X0_1 X1_1 X2_1 X3_1 hB1 b2
    have fX0_0 := X0_2.c0
    have fX0_1 := X0_2.c1
    have fX1_0 := X1_2.c0
    have fX1_1 := X1_2.c1
    have fX2_0 := X2_2.c0
    have fX2_1 := X2_2.c1
    have fX3_0 := X3_2.c0
    have fX3_1 := X3_2.c1
    go_wp2_with fail
    go_ret
    exact ⟨rfl, hB2⟩

set_option maxRecDepth 100000 in
theorem lifted (os : Os) (started : os.Started) (H : Type) (enc : TypeId × Value → H) :
    ReturnsInHanded {} Try.checked os 8 .any (Rows.geomSplitsSpec.pre6 enc Try.prog Try.f8 Rows.geomSplitsRow.domain false) (Rows.geomSplitsSpec.post enc Try.prog Try.f8 false true false false) := by
  refine returnsInHanded_of_change (C := Try.checked) own started (by kernel_rfl) Try.func8
    (ChangeSpec.witness6 (enc := enc) (C := Try.checked) false ⟨#[], #[.agg #[.int .i64 0, .int .i64 0], .agg #[.int .i64 0, .int .i64 0], .agg #[.int .i64 0, .int .i64 0], .agg #[.int .i64 0, .int .i64 0]], []⟩ 8 (by kernel_rfl) (by kernel_rfl) (by kernel_rfl) (by kernel_rfl)) ?_
  intro W base args ds gs before hval0 hW _ _
  have hval : ∀ (j : Nat) t v, Try.f8.params[j]? = some t → args[j]? = some v → Value.okWide Try.prog W .any base t v := hval0
  have hW' := hW
  obtain ⟨p, q, hA0, hV, rfl, hfz, hnd⟩ := hW
  have hA : DataW.TrodAll enc Try.prog W 0 (fun _ => true) true Try.f8.params.toList args.toList ds p := hA0
  rw [Try.params8] at hA hval
  obtain ⟨v0, vs0, d0, ds0, p0, q0, hargs, rfl, rfl, h0, r0⟩ := trodAll_cons hA
  obtain ⟨v1, vs1, d1, ds1, p1, q1, rfl, rfl, rfl, h1, r1⟩ := trodAll_cons r0
  obtain ⟨v2, vs2, d2, ds2, p2, q2, rfl, rfl, rfl, h2, r2⟩ := trodAll_cons r1
  obtain ⟨v3, vs3, d3, ds3, p3, q3, rfl, rfl, rfl, h3, r3⟩ := trodAll_cons r2
  obtain ⟨rfl, rfl, rfl⟩ := trodAll_nil r3
  obtain rfl : args = #[v0, v1, v2, v3] := by cases args; simp_all
  obtain ⟨rfl, rfl⟩ := trodVars_none hV
  have k0 := h0
  obtain ⟨a0_0, a0_1, rfl, rfl, rfl, w0_0, w0_1⟩ := open_st2 Try.underlying23 (by kernel_rfl) ⟨rfl, rfl⟩ ⟨rfl, rfl⟩ (hval 0 23 v0 rfl rfl) h0
  have k1 := h1
  obtain ⟨a1_0, a1_1, rfl, rfl, rfl, w1_0, w1_1⟩ := open_st2 Try.underlying23 (by kernel_rfl) ⟨rfl, rfl⟩ ⟨rfl, rfl⟩ (hval 1 23 v1 rfl rfl) h1
  have k2 := h2
  obtain ⟨a2_0, a2_1, rfl, rfl, rfl, w2_0, w2_1⟩ := open_st2 Try.underlying23 (by kernel_rfl) ⟨rfl, rfl⟩ ⟨rfl, rfl⟩ (hval 2 23 v2 rfl rfl) h2
  have k3 := h3
  obtain ⟨a3_0, a3_1, rfl, rfl, rfl, w3_0, w3_1⟩ := open_st2 Try.underlying23 (by kernel_rfl) ⟨rfl, rfl⟩ ⟨rfl, rfl⟩ (hval 3 23 v3 rfl rfl) h3
  clear hA0 hval0
  refine (walk a0_0 a0_1 a1_0 a1_1 a2_0 a2_1 a3_0 a3_1 W w0_0 w0_1 w1_0 w1_1 w2_0 w2_1 w3_0 w3_1).mono fun e W' ⟨he, bel⟩ => ?_
  subst he
  exact ⟨_, rfl, _, _, _, [], _, [], hW', trodAll_mk1 (shut_bool Try.underlying4 _), (trodAll_cons_mk (Below.trod laidOut (by kernel_rfl) (of_decide_eq_true (by kernel_rfl)) k0 bel (fun x hx => by cases hx)) (trodAll_cons_mk (Below.trod laidOut (by kernel_rfl) (of_decide_eq_true (by kernel_rfl)) k1 bel (fun x hx => by cases hx)) (trodAll_cons_mk (Below.trod laidOut (by kernel_rfl) (of_decide_eq_true (by kernel_rfl)) k2 bel (fun x hx => by cases hx)) (trodAll_cons_mk (Below.trod laidOut (by kernel_rfl) (of_decide_eq_true (by kernel_rfl)) k3 bel (fun x hx => by cases hx)) trodAll_mk0)))), rfl, Below.frame bel _, fun h => by cases h⟩

theorem holds : Rows.GeomSplitsSaid :=
  OpenClaim.holds_of_wide 8 Try.f8 rfl rfl rfl rfl rfl rfl rfl ⟨rfl, rfl, rfl, rfl, rfl⟩ rfl rfl rfl rfl rfl (by kernel_rfl) Try.func8 (by kernel_rfl)
    (of_decide_eq_true (by kernel_rfl)) (by unfold Func.isWrapper; first | (rw [if_pos (by decide +kernel)]; kernel_rfl) | (rw [if_neg (by decide +kernel)]; exact ⟨rfl, rfl⟩))
    (fun os started H enc _ => lifted os started H enc)
end Go.Proofs.Ytjdkgndecnhokaa.GeomSplits
