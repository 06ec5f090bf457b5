/- GeomOrder returns true for all points: Less answers as the reference does, and is a strict weak order on the points other than o. No condition. -/
import Derived.Test.YtjdkgndecnhokaaEAwake
import Derived.Test.YtjdkgndecnhokaaWArgs
import Derived.ChangeOld
import Derived.Test.YtjdkgndecnhokaaELaws
namespace Go.Proofs.Ytjdkgndecnhokaa.GeomOrder
open Go.ChangeShapes Go.WideShapes Go.ChangeAt Go.RowKit
open Go.ChangeMaps (open_string shut_string)
open Go.Proofs.Ytjdkgndecnhokaa.Wire
open Go.Proofs.Ytjdkgndecnhokaa.Geom
set_option linter.unusedVariables false
set_option linter.unusedSimpArgs false

set_option maxRecDepth 100000 in
set_option maxHeartbeats 2000000 in
theorem walk (a0_0 a0_1 : Int) (a1_0 a1_1 : Int) (a2_0 a2_1 : Int) (a3_0 a3_1 : Int) (w : World) (w0_0 : (Lit.int .i64 a0_0).wf = true) (w0_1 : (Lit.int .i64 a0_1).wf = true) (w1_0 : (Lit.int .i64 a1_0).wf = true) (w1_1 : (Lit.int .i64 a1_1).wf = true) (w2_0 : (Lit.int .i64 a2_0).wf = true) (w2_1 : (Lit.int .i64 a2_1).wf = true) (w3_0 : (Lit.int .i64 a3_0).wf = true) (w3_1 : (Lit.int .i64 a3_1).wf = true) :
    Calls Try.prog 5 #[.agg #[.int .i64 a0_0, .int .i64 a0_1], .agg #[.int .i64 a1_0, .int .i64 a1_1], .agg #[.int .i64 a2_0, .int .i64 a2_1], .agg #[.int .i64 a3_0, .int .i64 a3_1]] w fun e w' => e = .returned (.bool true) ∧ Bl w w' := by
  have aw := hid (fun w' => awake_any w')
  have n1' := fun w' T g hg => RNear4 (a0_0, a0_1) (a1_0, a1_1) (a2_0, a2_1) (a3_0, a3_1) w' T g hg
  have cab' := fun w' => Less_any (a0_0, a0_1) (a1_0, a1_1) (a2_0, a2_1) w'
  have cba' := fun w' => Less_any (a0_0, a0_1) (a2_0, a2_1) (a1_0, a1_1) w'
  have cbc' := fun w' => Less_any (a0_0, a0_1) (a2_0, a2_1) (a3_0, a3_1) w'
  have cac' := fun w' => Less_any (a0_0, a0_1) (a1_0, a1_1) (a3_0, a3_1) w'
  have caa' := fun w' => Less_any (a0_0, a0_1) (a1_0, a1_1) (a1_0, a1_1) w'
  have dab' := fun w' => RLess_any (a0_0, a0_1) (a1_0, a1_1) (a2_0, a2_1) w'
  rw [les_irr] at caa'
  have qab' := fun w' => equal_any (a0_0, a0_1) (a1_0, a1_1) (a2_0, a2_1) w'
  have qbc' := fun w' => equal_any (a0_0, a0_1) (a2_0, a2_1) (a3_0, a3_1) w'
  have qac' := fun w' => equal_any (a0_0, a0_1) (a1_0, a1_1) (a3_0, a3_1) w'
  by_cases ha : (a1_0, a1_1) = (a0_0, a0_1)
  · have hab := les_a (b := (a2_0, a2_1)) ha
    rw [hab] at cab' dab'
    have qa := eql_yes ha
    clear hab ha
    generalize les (a0_0, a0_1) (a2_0, a2_1) (a1_0, a1_1) = Lba at *
    generalize les (a0_0, a0_1) (a2_0, a2_1) (a3_0, a3_1) = Lbc at *
    generalize les (a0_0, a0_1) (a1_0, a1_1) (a3_0, a3_1) = Lac at *
    generalize eqd (a0_0, a0_1) (a1_0, a1_1) (a2_0, a2_1) = Qab at *
    generalize eqd (a0_0, a0_1) (a2_0, a2_1) (a3_0, a3_1) = Qbc at *
    generalize eqd (a0_0, a0_1) (a1_0, a1_1) (a3_0, a3_1) = Qac at *
    generalize decide (Nrs [(a0_0, a0_1), (a1_0, a1_1), (a2_0, a2_1), (a3_0, a3_1)]) = Nd at *
    have cab := hid cab'
    have cba := hid cba'
    have cbc := hid cbc'
    have cac := hid cac'
    have caa := hid caa'
    have dab := hid dab'
    have qab := hid qab'
    have qbc := hid qbc'
    have qac := hid qac'
    have n1 := hid n1'
    clear cab' cba' cbc' cac' caa' dab' qab' qbc' qac' n1'
    have mixed : Try.prog.follows .mixedOrders = true := by kernel_rfl
    go_enter Try.func5, Try.ntmps5
    go_wp2_with fail
    obtain ⟨v0, hv0⟩ : ∃ v0, v0 = ((((w.alloc (.cells #[.int .i64 a0_0, .int .i64 a0_1] 23)).alloc (.cells #[.int .i64 a1_0, .int .i64 a1_1] 23)).alloc (.cells #[.int .i64 a2_0, .int .i64 a2_1] 23)).alloc (.cells #[.int .i64 a3_0, .int .i64 a3_1] 23)) := ⟨_, rfl⟩
    have hB0 : Bl w v0 := by rw [hv0]; exact ((((Bl.refl w).alloc _).alloc _).alloc _).alloc _
    have X0_0 : BX v0 (w.heap.size) a0_0 a0_1 := by rw [hv0]; exact (((BX.new (by simp)).al _).al _).al _
    have X1_0 : BX v0 (w.heap.size + 1) a1_0 a1_1 := by rw [hv0]; exact ((BX.new (by simp)).al _).al _
    have X2_0 : BX v0 (w.heap.size + 1 + 1) a2_0 a2_1 := by rw [hv0]; exact (BX.new (by simp)).al _
    have X3_0 : BX v0 (w.heap.size + 1 + 1 + 1) a3_0 a3_1 := by rw [hv0]; exact BX.new (by simp)
    have HZ := hid (show v0.heap.size = w.heap.size + 1 + 1 + 1 + 1 by rw [hv0]; simp)
    rw [← hv0]
    clear hv0
    have fX0_0 := X0_0.c0
    have fX0_1 := X0_0.c1
    have fX1_0 := X1_0.c0
    have fX1_1 := X1_0.c1
    have fX2_0 := X2_0.c0
    have fX2_1 := X2_0.c1
    have fX3_0 := X3_0.c0
    have fX3_1 := X3_0.c1
    clear fX0_0 fX0_1 fX1_0 fX1_1 fX2_0 fX2_1 fX3_0 fX3_1
    have kX0_0 := GB.cell X0_0.lt X0_0.c0
    have kX0_1 := GB.cell X0_0.lt X0_0.c1
    have kX1_0 := GB.cell X1_0.lt X1_0.c0
    have kX1_1 := GB.cell X1_0.lt X1_0.c1
    have kX2_0 := GB.cell X2_0.lt X2_0.c0
    have kX2_1 := GB.cell X2_0.lt X2_0.c1
    have kX3_0 := GB.cell X3_0.lt X3_0.c0
    have kX3_1 := GB.cell X3_0.lt X3_0.c1
    refine wp_region_gb mixed (by kernel_rfl) ?_
    try simp only [List.append]
    repeat
      with_reducible refine wpQuiet_step (fun K hK => ?_)
      go_simp
      first
        | (with_reducible refine hK _ ?_; clear hK K)
        | (rw [if_neg]; rotate_left; · (intro h; cases h); with_reducible refine hK _ ?_; clear hK K)
        | (apply Exists.intro; with_reducible refine ⟨fun _ => ?_, hK _ ?_⟩; (first | (go_at_call 20; with_reducible refine gb_of (cab.out _)) | (go_at_call 21; with_reducible refine gb_of (dab.out _)) | (go_at_call 20; with_reducible refine gb_of (caa.out _)) | (go_at_call 20; with_reducible refine gb_of (cba.out _))); clear hK K)
    with_reducible refine wpQuiet_nil ?_
    intro w' hw'
    obtain ⟨⟨v1, b1⟩, hw''⟩ := hw'
    have hw3 : v1 = w' := hw''.symm
    subst hw3
    clear hw''
    clear kX0_0 kX0_1 kX1_0 kX1_1 kX2_0 kX2_1 kX3_0 kX3_1
    have X0_1 := X0_0.bl b1
    have X1_1 := X1_0.bl b1
    have X2_1 := X2_0.bl b1
    have X3_1 := X3_0.bl b1
    have hB1 := Bl.trans hB0 b1
    clear X0_0 X1_0 X2_0 X3_0 hB0 b1
    have fX0_0 := X0_1.c0
    have fX0_1 := X0_1.c1
    have fX1_0 := X1_1.c0
    have fX1_1 := X1_1.c1
    have fX2_0 := X2_1.c0
    have fX2_1 := X2_1.c1
    have fX3_0 := X3_1.c0
    have fX3_1 := X3_1.c1
    go_wp2_with fail
    refine (cab.out _).mono ?_
    rintro e v2 ⟨rfl, b2⟩
    clear fX0_0 fX0_1 fX1_0 fX1_1 fX2_0 fX2_1 fX3_0 fX3_1
    have X0_2 := X0_1.bl b2
    have X1_2 := X1_1.bl b2
    have X2_2 := X2_1.bl b2
    have X3_2 := X3_1.bl b2
    have hB2 := Bl.trans hB1 b2
    clear X0_1 X1_1 X2_1 X3_1 hB1 b2
    have fX0_0 := X0_2.c0
    have fX0_1 := X0_2.c1
    have fX1_0 := X1_2.c0
    have fX1_1 := X1_2.c1
    have fX2_0 := X2_2.c0
    have fX2_1 := X2_2.c1
    have fX3_0 := X3_2.c0
    have fX3_1 := X3_2.c1
    go_wp2_with fail
    refine (aw.out _).mono ?_
    rintro e v3 ⟨rfl, b3⟩
    clear fX0_0 fX0_1 fX1_0 fX1_1 fX2_0 fX2_1 fX3_0 fX3_1
    have X0_3 := X0_2.bl b3
    have X1_3 := X1_2.bl b3
    have X2_3 := X2_2.bl b3
    have X3_3 := X3_2.bl b3
    have hB3 := Bl.trans hB2 b3
    clear X0_2 X1_2 X2_2 X3_2 hB2 b3
    have fX0_0 := X0_3.c0
    have fX0_1 := X0_3.c1
    have fX1_0 := X1_3.c0
    have fX1_1 := X1_3.c1
    have fX2_0 := X2_3.c0
    have fX2_1 := X2_3.c1
    have fX3_0 := X3_3.c0
    have fX3_1 := X3_3.c1
    go_wp2_with fail
    go_ret
    exact ⟨rfl, hB3⟩
  have qa := eql_no ha
  by_cases hb : (a2_0, a2_1) = (a0_0, a0_1)
  · have hab := les_b (a := (a1_0, a1_1)) hb
    rw [hab] at cab' dab'
    have qb := eql_yes hb
    clear hab ha hb
    generalize les (a0_0, a0_1) (a2_0, a2_1) (a1_0, a1_1) = Lba at *
    generalize les (a0_0, a0_1) (a2_0, a2_1) (a3_0, a3_1) = Lbc at *
    generalize les (a0_0, a0_1) (a1_0, a1_1) (a3_0, a3_1) = Lac at *
    generalize eqd (a0_0, a0_1) (a1_0, a1_1) (a2_0, a2_1) = Qab at *
    generalize eqd (a0_0, a0_1) (a2_0, a2_1) (a3_0, a3_1) = Qbc at *
    generalize eqd (a0_0, a0_1) (a1_0, a1_1) (a3_0, a3_1) = Qac at *
    generalize decide (Nrs [(a0_0, a0_1), (a1_0, a1_1), (a2_0, a2_1), (a3_0, a3_1)]) = Nd at *
    have cab := hid cab'
    have cba := hid cba'
    have cbc := hid cbc'
    have cac := hid cac'
    have caa := hid caa'
    have dab := hid dab'
    have qab := hid qab'
    have qbc := hid qbc'
    have qac := hid qac'
    have n1 := hid n1'
    clear cab' cba' cbc' cac' caa' dab' qab' qbc' qac' n1'
    have mixed : Try.prog.follows .mixedOrders = true := by kernel_rfl
    go_enter Try.func5, Try.ntmps5
    go_wp2_with fail
    obtain ⟨v0, hv0⟩ : ∃ v0, v0 = ((((w.alloc (.cells #[.int .i64 a0_0, .int .i64 a0_1] 23)).alloc (.cells #[.int .i64 a1_0, .int .i64 a1_1] 23)).alloc (.cells #[.int .i64 a2_0, .int .i64 a2_1] 23)).alloc (.cells #[.int .i64 a3_0, .int .i64 a3_1] 23)) := ⟨_, rfl⟩
    have hB0 : Bl w v0 := by rw [hv0]; exact ((((Bl.refl w).alloc _).alloc _).alloc _).alloc _
    have X0_0 : BX v0 (w.heap.size) a0_0 a0_1 := by rw [hv0]; exact (((BX.new (by simp)).al _).al _).al _
    have X1_0 : BX v0 (w.heap.size + 1) a1_0 a1_1 := by rw [hv0]; exact ((BX.new (by simp)).al _).al _
    have X2_0 : BX v0 (w.heap.size + 1 + 1) a2_0 a2_1 := by rw [hv0]; exact (BX.new (by simp)).al _
    have X3_0 : BX v0 (w.heap.size + 1 + 1 + 1) a3_0 a3_1 := by rw [hv0]; exact BX.new (by simp)
    have HZ := hid (show v0.heap.size = w.heap.size + 1 + 1 + 1 + 1 by rw [hv0]; simp)
    rw [← hv0]
    clear hv0
    have fX0_0 := X0_0.c0
    have fX0_1 := X0_0.c1
    have fX1_0 := X1_0.c0
    have fX1_1 := X1_0.c1
    have fX2_0 := X2_0.c0
    have fX2_1 := X2_0.c1
    have fX3_0 := X3_0.c0
    have fX3_1 := X3_0.c1
    clear fX0_0 fX0_1 fX1_0 fX1_1 fX2_0 fX2_1 fX3_0 fX3_1
    have kX0_0 := GB.cell X0_0.lt X0_0.c0
    have kX0_1 := GB.cell X0_0.lt X0_0.c1
    have kX1_0 := GB.cell X1_0.lt X1_0.c0
    have kX1_1 := GB.cell X1_0.lt X1_0.c1
    have kX2_0 := GB.cell X2_0.lt X2_0.c0
    have kX2_1 := GB.cell X2_0.lt X2_0.c1
    have kX3_0 := GB.cell X3_0.lt X3_0.c0
    have kX3_1 := GB.cell X3_0.lt X3_0.c1
    refine wp_region_gb mixed (by kernel_rfl) ?_
    try simp only [List.append]
    repeat
      with_reducible refine wpQuiet_step (fun K hK => ?_)
      go_simp
      first
        | (with_reducible refine hK _ ?_; clear hK K)
        | (rw [if_neg]; rotate_left; · (intro h; cases h); with_reducible refine hK _ ?_; clear hK K)
        | (apply Exists.intro; with_reducible refine ⟨fun _ => ?_, hK _ ?_⟩; (first | (go_at_call 20; with_reducible refine gb_of (cab.out _)) | (go_at_call 21; with_reducible refine gb_of (dab.out _)) | (go_at_call 20; with_reducible refine gb_of (caa.out _)) | (go_at_call 20; with_reducible refine gb_of (cba.out _))); clear hK K)
    with_reducible refine wpQuiet_nil ?_
    intro w' hw'
    obtain ⟨⟨v1, b1⟩, hw''⟩ := hw'
    have hw3 : v1 = w' := hw''.symm
    subst hw3
    clear hw''
    clear kX0_0 kX0_1 kX1_0 kX1_1 kX2_0 kX2_1 kX3_0 kX3_1
    have X0_1 := X0_0.bl b1
    have X1_1 := X1_0.bl b1
    have X2_1 := X2_0.bl b1
    have X3_1 := X3_0.bl b1
    have hB1 := Bl.trans hB0 b1
    clear X0_0 X1_0 X2_0 X3_0 hB0 b1
    have fX0_0 := X0_1.c0
    have fX0_1 := X0_1.c1
    have fX1_0 := X1_1.c0
    have fX1_1 := X1_1.c1
    have fX2_0 := X2_1.c0
    have fX2_1 := X2_1.c1
    have fX3_0 := X3_1.c0
    have fX3_1 := X3_1.c1
    go_wp2_with fail
    refine (cab.out _).mono ?_
    rintro e v2 ⟨rfl, b2⟩
    clear fX0_0 fX0_1 fX1_0 fX1_1 fX2_0 fX2_1 fX3_0 fX3_1
    have X0_2 := X0_1.bl b2
    have X1_2 := X1_1.bl b2
    have X2_2 := X2_1.bl b2
    have X3_2 := X3_1.bl b2
    have hB2 := Bl.trans hB1 b2
    clear X0_1 X1_1 X2_1 X3_1 hB1 b2
    have fX0_0 := X0_2.c0
    have fX0_1 := X0_2.c1
    have fX1_0 := X1_2.c0
    have fX1_1 := X1_2.c1
    have fX2_0 := X2_2.c0
    have fX2_1 := X2_2.c1
    have fX3_0 := X3_2.c0
    have fX3_1 := X3_2.c1
    go_wp2_with fail
    refine (aw.out _).mono ?_
    rintro e v3 ⟨rfl, b3⟩
    clear fX0_0 fX0_1 fX1_0 fX1_1 fX2_0 fX2_1 fX3_0 fX3_1
    have X0_3 := X0_2.bl b3
    have X1_3 := X1_2.bl b3
    have X2_3 := X2_2.bl b3
    have X3_3 := X3_2.bl b3
    have hB3 := Bl.trans hB2 b3
    clear X0_2 X1_2 X2_2 X3_2 hB2 b3
    have fX0_0 := X0_3.c0
    have fX0_1 := X0_3.c1
    have fX1_0 := X1_3.c0
    have fX1_1 := X1_3.c1
    have fX2_0 := X2_3.c0
    have fX2_1 := X2_3.c1
    have fX3_0 := X3_3.c0
    have fX3_1 := X3_3.c1
    go_wp2_with fail
    go_ret
    exact ⟨rfl, hB3⟩
  have qb := eql_no hb
  by_cases hc : (a3_0, a3_1) = (a0_0, a0_1)
  · have hbc := les_b (a := (a2_0, a2_1)) hc
    rw [hbc] at cbc'
    have qc := eql_yes hc
    cases hab : les (a0_0, a0_1) (a1_0, a1_1) (a2_0, a2_1)
    · rw [hab] at cab' dab'
      clear hab ha hb hc
      clear hbc
      generalize les (a0_0, a0_1) (a2_0, a2_1) (a1_0, a1_1) = Lba at *
      generalize les (a0_0, a0_1) (a1_0, a1_1) (a3_0, a3_1) = Lac at *
      generalize eqd (a0_0, a0_1) (a1_0, a1_1) (a2_0, a2_1) = Qab at *
      generalize eqd (a0_0, a0_1) (a2_0, a2_1) (a3_0, a3_1) = Qbc at *
      generalize eqd (a0_0, a0_1) (a1_0, a1_1) (a3_0, a3_1) = Qac at *
      generalize decide (Nrs [(a0_0, a0_1), (a1_0, a1_1), (a2_0, a2_1), (a3_0, a3_1)]) = Nd at *
      have cab := hid cab'
      have cba := hid cba'
      have cbc := hid cbc'
      have cac := hid cac'
      have caa := hid caa'
      have dab := hid dab'
      have qab := hid qab'
      have qbc := hid qbc'
      have qac := hid qac'
      have n1 := hid n1'
      clear cab' cba' cbc' cac' caa' dab' qab' qbc' qac' n1'
      have mixed : Try.prog.follows .mixedOrders = true := by kernel_rfl
      go_enter Try.func5, Try.ntmps5
      go_wp2_with fail
      obtain ⟨v0, hv0⟩ : ∃ v0, v0 = ((((w.alloc (.cells #[.int .i64 a0_0, .int .i64 a0_1] 23)).alloc (.cells #[.int .i64 a1_0, .int .i64 a1_1] 23)).alloc (.cells #[.int .i64 a2_0, .int .i64 a2_1] 23)).alloc (.cells #[.int .i64 a3_0, .int .i64 a3_1] 23)) := ⟨_, rfl⟩
      have hB0 : Bl w v0 := by rw [hv0]; exact ((((Bl.refl w).alloc _).alloc _).alloc _).alloc _
      have X0_0 : BX v0 (w.heap.size) a0_0 a0_1 := by rw [hv0]; exact (((BX.new (by simp)).al _).al _).al _
      have X1_0 : BX v0 (w.heap.size + 1) a1_0 a1_1 := by rw [hv0]; exact ((BX.new (by simp)).al _).al _
      have X2_0 : BX v0 (w.heap.size + 1 + 1) a2_0 a2_1 := by rw [hv0]; exact (BX.new (by simp)).al _
      have X3_0 : BX v0 (w.heap.size + 1 + 1 + 1) a3_0 a3_1 := by rw [hv0]; exact BX.new (by simp)
      have HZ := hid (show v0.heap.size = w.heap.size + 1 + 1 + 1 + 1 by rw [hv0]; simp)
      rw [← hv0]
      clear hv0
      have fX0_0 := X0_0.c0
      have fX0_1 := X0_0.c1
      have fX1_0 := X1_0.c0
      have fX1_1 := X1_0.c1
      have fX2_0 := X2_0.c0
      have fX2_1 := X2_0.c1
      have fX3_0 := X3_0.c0
      have fX3_1 := X3_0.c1
      clear fX0_0 fX0_1 fX1_0 fX1_1 fX2_0 fX2_1 fX3_0 fX3_1
      have kX0_0 := GB.cell X0_0.lt X0_0.c0
      have kX0_1 := GB.cell X0_0.lt X0_0.c1
      have kX1_0 := GB.cell X1_0.lt X1_0.c0
      have kX1_1 := GB.cell X1_0.lt X1_0.c1
      have kX2_0 := GB.cell X2_0.lt X2_0.c0
      have kX2_1 := GB.cell X2_0.lt X2_0.c1
      have kX3_0 := GB.cell X3_0.lt X3_0.c0
      have kX3_1 := GB.cell X3_0.lt X3_0.c1
      refine wp_region_gb mixed (by kernel_rfl) ?_
      try simp only [List.append]
      repeat
        with_reducible refine wpQuiet_step (fun K hK => ?_)
        go_simp
        first
          | (with_reducible refine hK _ ?_; clear hK K)
          | (rw [if_neg]; rotate_left; · (intro h; cases h); with_reducible refine hK _ ?_; clear hK K)
          | (apply Exists.intro; with_reducible refine ⟨fun _ => ?_, hK _ ?_⟩; (first | (go_at_call 20; with_reducible refine gb_of (cab.out _)) | (go_at_call 21; with_reducible refine gb_of (dab.out _)) | (go_at_call 20; with_reducible refine gb_of (caa.out _)) | (go_at_call 20; with_reducible refine gb_of (cba.out _))); clear hK K)
      with_reducible refine wpQuiet_nil ?_
      intro w' hw'
      obtain ⟨⟨v1, b1⟩, hw''⟩ := hw'
      have hw3 : v1 = w' := hw''.symm
      subst hw3
      clear hw''
      clear kX0_0 kX0_1 kX1_0 kX1_1 kX2_0 kX2_1 kX3_0 kX3_1
      have X0_1 := X0_0.bl b1
      have X1_1 := X1_0.bl b1
      have X2_1 := X2_0.bl b1
      have X3_1 := X3_0.bl b1
      have hB1 := Bl.trans hB0 b1
      clear X0_0 X1_0 X2_0 X3_0 hB0 b1
      have fX0_0 := X0_1.c0
      have fX0_1 := X0_1.c1
      have fX1_0 := X1_1.c0
      have fX1_1 := X1_1.c1
      have fX2_0 := X2_1.c0
      have fX2_1 := X2_1.c1
      have fX3_0 := X3_1.c0
      have fX3_1 := X3_1.c1
      go_wp2_with fail
      refine (cab.out _).mono ?_
      rintro e v2 ⟨rfl, b2⟩
      clear fX0_0 fX0_1 fX1_0 fX1_1 fX2_0 fX2_1 fX3_0 fX3_1
      have X0_2 := X0_1.bl b2
      have X1_2 := X1_1.bl b2
      have X2_2 := X2_1.bl b2
      have X3_2 := X3_1.bl b2
      have hB2 := Bl.trans hB1 b2
      clear X0_1 X1_1 X2_1 X3_1 hB1 b2
      have fX0_0 := X0_2.c0
      have fX0_1 := X0_2.c1
      have fX1_0 := X1_2.c0
      have fX1_1 := X1_2.c1
      have fX2_0 := X2_2.c0
      have fX2_1 := X2_2.c1
      have fX3_0 := X3_2.c0
      have fX3_1 := X3_2.c1
      go_wp2_with fail
      refine (aw.out _).mono ?_
      rintro e v3 ⟨rfl, b3⟩
      clear fX0_0 fX0_1 fX1_0 fX1_1 fX2_0 fX2_1 fX3_0 fX3_1
      have X0_3 := X0_2.bl b3
      have X1_3 := X1_2.bl b3
      have X2_3 := X2_2.bl b3
      have X3_3 := X3_2.bl b3
      have hB3 := Bl.trans hB2 b3
      clear X0_2 X1_2 X2_2 X3_2 hB2 b3
      have fX0_0 := X0_3.c0
      have fX0_1 := X0_3.c1
      have fX1_0 := X1_3.c0
      have fX1_1 := X1_3.c1
      have fX2_0 := X2_3.c0
      have fX2_1 := X2_3.c1
      have fX3_0 := X3_3.c0
      have fX3_1 := X3_3.c1
      go_wp2_with fail
      go_ret
      exact ⟨rfl, hB3⟩
    · rw [hab] at cab' dab'
      rw [les_asym hab] at cba'
      clear hab ha hb hc hbc
      generalize les (a0_0, a0_1) (a1_0, a1_1) (a3_0, a3_1) = Lac at *
      generalize eqd (a0_0, a0_1) (a1_0, a1_1) (a2_0, a2_1) = Qab at *
      generalize eqd (a0_0, a0_1) (a2_0, a2_1) (a3_0, a3_1) = Qbc at *
      generalize eqd (a0_0, a0_1) (a1_0, a1_1) (a3_0, a3_1) = Qac at *
      generalize decide (Nrs [(a0_0, a0_1), (a1_0, a1_1), (a2_0, a2_1), (a3_0, a3_1)]) = Nd at *
      have cab := hid cab'
      have cba := hid cba'
      have cbc := hid cbc'
      have cac := hid cac'
      have caa := hid caa'
      have dab := hid dab'
      have qab := hid qab'
      have qbc := hid qbc'
      have qac := hid qac'
      have n1 := hid n1'
      clear cab' cba' cbc' cac' caa' dab' qab' qbc' qac' n1'
      have mixed : Try.prog.follows .mixedOrders = true := by kernel_rfl
      go_enter Try.func5, Try.ntmps5
      go_wp2_with fail
      obtain ⟨v0, hv0⟩ : ∃ v0, v0 = ((((w.alloc (.cells #[.int .i64 a0_0, .int .i64 a0_1] 23)).alloc (.cells #[.int .i64 a1_0, .int .i64 a1_1] 23)).alloc (.cells #[.int .i64 a2_0, .int .i64 a2_1] 23)).alloc (.cells #[.int .i64 a3_0, .int .i64 a3_1] 23)) := ⟨_, rfl⟩
      have hB0 : Bl w v0 := by rw [hv0]; exact ((((Bl.refl w).alloc _).alloc _).alloc _).alloc _
      have X0_0 : BX v0 (w.heap.size) a0_0 a0_1 := by rw [hv0]; exact (((BX.new (by simp)).al _).al _).al _
      have X1_0 : BX v0 (w.heap.size + 1) a1_0 a1_1 := by rw [hv0]; exact ((BX.new (by simp)).al _).al _
      have X2_0 : BX v0 (w.heap.size + 1 + 1) a2_0 a2_1 := by rw [hv0]; exact (BX.new (by simp)).al _
      have X3_0 : BX v0 (w.heap.size + 1 + 1 + 1) a3_0 a3_1 := by rw [hv0]; exact BX.new (by simp)
      have HZ := hid (show v0.heap.size = w.heap.size + 1 + 1 + 1 + 1 by rw [hv0]; simp)
      rw [← hv0]
      clear hv0
      have fX0_0 := X0_0.c0
      have fX0_1 := X0_0.c1
      have fX1_0 := X1_0.c0
      have fX1_1 := X1_0.c1
      have fX2_0 := X2_0.c0
      have fX2_1 := X2_0.c1
      have fX3_0 := X3_0.c0
      have fX3_1 := X3_0.c1
      clear fX0_0 fX0_1 fX1_0 fX1_1 fX2_0 fX2_1 fX3_0 fX3_1
      have kX0_0 := GB.cell X0_0.lt X0_0.c0
      have kX0_1 := GB.cell X0_0.lt X0_0.c1
      have kX1_0 := GB.cell X1_0.lt X1_0.c0
      have kX1_1 := GB.cell X1_0.lt X1_0.c1
      have kX2_0 := GB.cell X2_0.lt X2_0.c0
      have kX2_1 := GB.cell X2_0.lt X2_0.c1
      have kX3_0 := GB.cell X3_0.lt X3_0.c0
      have kX3_1 := GB.cell X3_0.lt X3_0.c1
      refine wp_region_gb mixed (by kernel_rfl) ?_
      try simp only [List.append]
      repeat
        with_reducible refine wpQuiet_step (fun K hK => ?_)
        go_simp
        first
          | (with_reducible refine hK _ ?_; clear hK K)
          | (rw [if_neg]; rotate_left; · (intro h; cases h); with_reducible refine hK _ ?_; clear hK K)
          | (apply Exists.intro; with_reducible refine ⟨fun _ => ?_, hK _ ?_⟩; (first | (go_at_call 20; with_reducible refine gb_of (cab.out _)) | (go_at_call 21; with_reducible refine gb_of (dab.out _)) | (go_at_call 20; with_reducible refine gb_of (caa.out _)) | (go_at_call 20; with_reducible refine gb_of (cba.out _))); clear hK K)
      with_reducible refine wpQuiet_nil ?_
      intro w' hw'
      obtain ⟨⟨v1, b1⟩, hw''⟩ := hw'
      have hw3 : v1 = w' := hw''.symm
      subst hw3
      clear hw''
      clear kX0_0 kX0_1 kX1_0 kX1_1 kX2_0 kX2_1 kX3_0 kX3_1
      have X0_1 := X0_0.bl b1
      have X1_1 := X1_0.bl b1
      have X2_1 := X2_0.bl b1
      have X3_1 := X3_0.bl b1
      have hB1 := Bl.trans hB0 b1
      clear X0_0 X1_0 X2_0 X3_0 hB0 b1
      have fX0_0 := X0_1.c0
      have fX0_1 := X0_1.c1
      have fX1_0 := X1_1.c0
      have fX1_1 := X1_1.c1
      have fX2_0 := X2_1.c0
      have fX2_1 := X2_1.c1
      have fX3_0 := X3_1.c0
      have fX3_1 := X3_1.c1
      go_wp2_with fail
      refine (cab.out _).mono ?_
      rintro e v2 ⟨rfl, b2⟩
      clear fX0_0 fX0_1 fX1_0 fX1_1 fX2_0 fX2_1 fX3_0 fX3_1
      have X0_2 := X0_1.bl b2
      have X1_2 := X1_1.bl b2
      have X2_2 := X2_1.bl b2
      have X3_2 := X3_1.bl b2
      have hB2 := Bl.trans hB1 b2
      clear X0_1 X1_1 X2_1 X3_1 hB1 b2
      have fX0_0 := X0_2.c0
      have fX0_1 := X0_2.c1
      have fX1_0 := X1_2.c0
      have fX1_1 := X1_2.c1
      have fX2_0 := X2_2.c0
      have fX2_1 := X2_2.c1
      have fX3_0 := X3_2.c0
      have fX3_1 := X3_2.c1
      go_wp2_with fail
      refine (cbc.out _).mono ?_
      rintro e v3 ⟨rfl, b3⟩
      clear fX0_0 fX0_1 fX1_0 fX1_1 fX2_0 fX2_1 fX3_0 fX3_1
      have X0_3 := X0_2.bl b3
      have X1_3 := X1_2.bl b3
      have X2_3 := X2_2.bl b3
      have X3_3 := X3_2.bl b3
      have hB3 := Bl.trans hB2 b3
      clear X0_2 X1_2 X2_2 X3_2 hB2 b3
      have fX0_0 := X0_3.c0
      have fX0_1 := X0_3.c1
      have fX1_0 := X1_3.c0
      have fX1_1 := X1_3.c1
      have fX2_0 := X2_3.c0
      have fX2_1 := X2_3.c1
      have fX3_0 := X3_3.c0
      have fX3_1 := X3_3.c1
      go_wp2_with fail
      refine (aw.out _).mono ?_
      rintro e v4 ⟨rfl, b4⟩
      clear fX0_0 fX0_1 fX1_0 fX1_1 fX2_0 fX2_1 fX3_0 fX3_1
      have X0_4 := X0_3.bl b4
      have X1_4 := X1_3.bl b4
      have X2_4 := X2_3.bl b4
      have X3_4 := X3_3.bl b4
      have hB4 := Bl.trans hB3 b4
      clear X0_3 X1_3 X2_3 X3_3 hB3 b4
      have fX0_0 := X0_4.c0
      have fX0_1 := X0_4.c1
      have fX1_0 := X1_4.c0
      have fX1_1 := X1_4.c1
      have fX2_0 := X2_4.c0
      have fX2_1 := X2_4.c1
      have fX3_0 := X3_4.c0
      have fX3_1 := X3_4.c1
      go_wp2_with fail
      go_ret
      exact ⟨rfl, hB4⟩
  have qc := eql_no hc
  by_cases hn : Nrs [(a0_0, a0_1), (a1_0, a1_1), (a2_0, a2_1), (a3_0, a3_1)]
  · rw [decide_eq_true hn] at n1'
    cases hab : les (a0_0, a0_1) (a1_0, a1_1) (a2_0, a2_1)
    · rw [hab] at cab' dab'
      cases h1 : eqd (a0_0, a0_1) (a1_0, a1_1) (a2_0, a2_1)
      · rw [h1] at qab'
        clear h1 hab ha hb hc hn
        generalize les (a0_0, a0_1) (a2_0, a2_1) (a1_0, a1_1) = Lba at *
        generalize les (a0_0, a0_1) (a2_0, a2_1) (a3_0, a3_1) = Lbc at *
        generalize les (a0_0, a0_1) (a1_0, a1_1) (a3_0, a3_1) = Lac at *
        generalize eqd (a0_0, a0_1) (a2_0, a2_1) (a3_0, a3_1) = Qbc at *
        generalize eqd (a0_0, a0_1) (a1_0, a1_1) (a3_0, a3_1) = Qac at *
        have cab := hid cab'
        have cba := hid cba'
        have cbc := hid cbc'
        have cac := hid cac'
        have caa := hid caa'
        have dab := hid dab'
        have qab := hid qab'
        have qbc := hid qbc'
        have qac := hid qac'
        have n1 := hid n1'
        clear cab' cba' cbc' cac' caa' dab' qab' qbc' qac' n1'
        have mixed : Try.prog.follows .mixedOrders = true := by kernel_rfl
        go_enter Try.func5, Try.ntmps5
        go_wp2_with fail
        obtain ⟨v0, hv0⟩ : ∃ v0, v0 = ((((w.alloc (.cells #[.int .i64 a0_0, .int .i64 a0_1] 23)).alloc (.cells #[.int .i64 a1_0, .int .i64 a1_1] 23)).alloc (.cells #[.int .i64 a2_0, .int .i64 a2_1] 23)).alloc (.cells #[.int .i64 a3_0, .int .i64 a3_1] 23)) := ⟨_, rfl⟩
        have hB0 : Bl w v0 := by rw [hv0]; exact ((((Bl.refl w).alloc _).alloc _).alloc _).alloc _
        have X0_0 : BX v0 (w.heap.size) a0_0 a0_1 := by rw [hv0]; exact (((BX.new (by simp)).al _).al _).al _
        have X1_0 : BX v0 (w.heap.size + 1) a1_0 a1_1 := by rw [hv0]; exact ((BX.new (by simp)).al _).al _
        have X2_0 : BX v0 (w.heap.size + 1 + 1) a2_0 a2_1 := by rw [hv0]; exact (BX.new (by simp)).al _
        have X3_0 : BX v0 (w.heap.size + 1 + 1 + 1) a3_0 a3_1 := by rw [hv0]; exact BX.new (by simp)
        have HZ := hid (show v0.heap.size = w.heap.size + 1 + 1 + 1 + 1 by rw [hv0]; simp)
        rw [← hv0]
        clear hv0
        have fX0_0 := X0_0.c0
        have fX0_1 := X0_0.c1
        have fX1_0 := X1_0.c0
        have fX1_1 := X1_0.c1
        have fX2_0 := X2_0.c0
        have fX2_1 := X2_0.c1
        have fX3_0 := X3_0.c0
        have fX3_1 := X3_0.c1
        clear fX0_0 fX0_1 fX1_0 fX1_1 fX2_0 fX2_1 fX3_0 fX3_1
        have kX0_0 := GB.cell X0_0.lt X0_0.c0
        have kX0_1 := GB.cell X0_0.lt X0_0.c1
        have kX1_0 := GB.cell X1_0.lt X1_0.c0
        have kX1_1 := GB.cell X1_0.lt X1_0.c1
        have kX2_0 := GB.cell X2_0.lt X2_0.c0
        have kX2_1 := GB.cell X2_0.lt X2_0.c1
        have kX3_0 := GB.cell X3_0.lt X3_0.c0
        have kX3_1 := GB.cell X3_0.lt X3_0.c1
        refine wp_region_gb mixed (by kernel_rfl) ?_
        try simp only [List.append]
        repeat
          with_reducible refine wpQuiet_step (fun K hK => ?_)
          go_simp
          first
            | (with_reducible refine hK _ ?_; clear hK K)
            | (rw [if_neg]; rotate_left; · (intro h; cases h); with_reducible refine hK _ ?_; clear hK K)
            | (apply Exists.intro; with_reducible refine ⟨fun _ => ?_, hK _ ?_⟩; (first | (go_at_call 20; with_reducible refine gb_of (cab.out _)) | (go_at_call 21; with_reducible refine gb_of (dab.out _)) | (go_at_call 20; with_reducible refine gb_of (caa.out _)) | (go_at_call 20; with_reducible refine gb_of (cba.out _))); clear hK K)
        with_reducible refine wpQuiet_nil ?_
        intro w' hw'
        obtain ⟨⟨v1, b1⟩, hw''⟩ := hw'
        have hw3 : v1 = w' := hw''.symm
        subst hw3
        clear hw''
        clear kX0_0 kX0_1 kX1_0 kX1_1 kX2_0 kX2_1 kX3_0 kX3_1
        have X0_1 := X0_0.bl b1
        have X1_1 := X1_0.bl b1
        have X2_1 := X2_0.bl b1
        have X3_1 := X3_0.bl b1
        have hB1 := Bl.trans hB0 b1
        clear X0_0 X1_0 X2_0 X3_0 hB0 b1
        have fX0_0 := X0_1.c0
        have fX0_1 := X0_1.c1
        have fX1_0 := X1_1.c0
        have fX1_1 := X1_1.c1
        have fX2_0 := X2_1.c0
        have fX2_1 := X2_1.c1
        have fX3_0 := X3_1.c0
        have fX3_1 := X3_1.c1
        go_wp2_with fail
        refine (cab.out _).mono ?_
        rintro e v2 ⟨rfl, b2⟩
        clear fX0_0 fX0_1 fX1_0 fX1_1 fX2_0 fX2_1 fX3_0 fX3_1
        have X0_2 := X0_1.bl b2
        have X1_2 := X1_1.bl b2
        have X2_2 := X2_1.bl b2
        have X3_2 := X3_1.bl b2
        have hB2 := Bl.trans hB1 b2
        clear X0_1 X1_1 X2_1 X3_1 hB1 b2
        have fX0_0 := X0_2.c0
        have fX0_1 := X0_2.c1
        have fX1_0 := X1_2.c0
        have fX1_1 := X1_2.c1
        have fX2_0 := X2_2.c0
        have fX2_1 := X2_2.c1
        have fX3_0 := X3_2.c0
        have fX3_1 := X3_2.c1
        go_wp2_with fail
        refine (n1.out _ _ _ (by first | rfl | exact HZ.out.symm)).mono ?_
        rintro e v3 ⟨rfl, hw⟩
        have b3 : Bl v2 v3 := by rw [← hw]; exact (Bl.refl _).alloc _
        clear hw
        clear fX0_0 fX0_1 fX1_0 fX1_1 fX2_0 fX2_1 fX3_0 fX3_1
        have X0_3 := X0_2.bl b3
        have X1_3 := X1_2.bl b3
        have X2_3 := X2_2.bl b3
        have X3_3 := X3_2.bl b3
        have hB3 := Bl.trans hB2 b3
        clear X0_2 X1_2 X2_2 X3_2 hB2 b3
        have fX0_0 := X0_3.c0
        have fX0_1 := X0_3.c1
        have fX1_0 := X1_3.c0
        have fX1_1 := X1_3.c1
        have fX2_0 := X2_3.c0
        have fX2_1 := X2_3.c1
        have fX3_0 := X3_3.c0
        have fX3_1 := X3_3.c1
        go_wp2_with fail
        refine (qab.out _).mono ?_
        rintro e v4 ⟨rfl, b4⟩
        clear fX0_0 fX0_1 fX1_0 fX1_1 fX2_0 fX2_1 fX3_0 fX3_1
        have X0_4 := X0_3.bl b4
        have X1_4 := X1_3.bl b4
        have X2_4 := X2_3.bl b4
        have X3_4 := X3_3.bl b4
        have hB4 := Bl.trans hB3 b4
        clear X0_3 X1_3 X2_3 X3_3 hB3 b4
        have fX0_0 := X0_4.c0
        have fX0_1 := X0_4.c1
        have fX1_0 := X1_4.c0
        have fX1_1 := X1_4.c1
        have fX2_0 := X2_4.c0
        have fX2_1 := X2_4.c1
        have fX3_0 := X3_4.c0
        have fX3_1 := X3_4.c1
        go_wp2_with fail
        refine (aw.out _).mono ?_
        rintro e v5 ⟨rfl, b5⟩
        clear fX0_0 fX0_1 fX1_0 fX1_1 fX2_0 fX2_1 fX3_0 fX3_1
        have X0_5 := X0_4.bl b5
        have X1_5 := X1_4.bl b5
        have X2_5 := X2_4.bl b5
        have X3_5 := X3_4.bl b5
        have hB5 := Bl.trans hB4 b5
        clear X0_4 X1_4 X2_4 X3_4 hB4 b5
        have fX0_0 := X0_5.c0
        have fX0_1 := X0_5.c1
        have fX1_0 := X1_5.c0
        have fX1_1 := X1_5.c1
        have fX2_0 := X2_5.c0
        have fX2_1 := X2_5.c1
        have fX3_0 := X3_5.c0
        have fX3_1 := X3_5.c1
        go_wp2_with fail
        go_ret
        exact ⟨rfl, hB5⟩
      · rw [h1] at qab'
        cases h2 : eqd (a0_0, a0_1) (a2_0, a2_1) (a3_0, a3_1)
        · rw [h2] at qbc'
          clear h1 h2 hab ha hb hc hn
          generalize les (a0_0, a0_1) (a2_0, a2_1) (a1_0, a1_1) = Lba at *
          generalize les (a0_0, a0_1) (a2_0, a2_1) (a3_0, a3_1) = Lbc at *
          generalize les (a0_0, a0_1) (a1_0, a1_1) (a3_0, a3_1) = Lac at *
          generalize eqd (a0_0, a0_1) (a1_0, a1_1) (a3_0, a3_1) = Qac at *
          have cab := hid cab'
          have cba := hid cba'
          have cbc := hid cbc'
          have cac := hid cac'
          have caa := hid caa'
          have dab := hid dab'
          have qab := hid qab'
          have qbc := hid qbc'
          have qac := hid qac'
          have n1 := hid n1'
          clear cab' cba' cbc' cac' caa' dab' qab' qbc' qac' n1'
          have mixed : Try.prog.follows .mixedOrders = true := by kernel_rfl
          go_enter Try.func5, Try.ntmps5
          go_wp2_with fail
          obtain ⟨v0, hv0⟩ : ∃ v0, v0 = ((((w.alloc (.cells #[.int .i64 a0_0, .int .i64 a0_1] 23)).alloc (.cells #[.int .i64 a1_0, .int .i64 a1_1] 23)).alloc (.cells #[.int .i64 a2_0, .int .i64 a2_1] 23)).alloc (.cells #[.int .i64 a3_0, .int .i64 a3_1] 23)) := ⟨_, rfl⟩
          have hB0 : Bl w v0 := by rw [hv0]; exact ((((Bl.refl w).alloc _).alloc _).alloc _).alloc _
          have X0_0 : BX v0 (w.heap.size) a0_0 a0_1 := by rw [hv0]; exact (((BX.new (by simp)).al _).al _).al _
          have X1_0 : BX v0 (w.heap.size + 1) a1_0 a1_1 := by rw [hv0]; exact ((BX.new (by simp)).al _).al _
          have X2_0 : BX v0 (w.heap.size + 1 + 1) a2_0 a2_1 := by rw [hv0]; exact (BX.new (by simp)).al _
          have X3_0 : BX v0 (w.heap.size + 1 + 1 + 1) a3_0 a3_1 := by rw [hv0]; exact BX.new (by simp)
          have HZ := hid (show v0.heap.size = w.heap.size + 1 + 1 + 1 + 1 by rw [hv0]; simp)
          rw [← hv0]
          clear hv0
          have fX0_0 := X0_0.c0
          have fX0_1 := X0_0.c1
          have fX1_0 := X1_0.c0
          have fX1_1 := X1_0.c1
          have fX2_0 := X2_0.c0
          have fX2_1 := X2_0.c1
          have fX3_0 := X3_0.c0
          have fX3_1 := X3_0.c1
          clear fX0_0 fX0_1 fX1_0 fX1_1 fX2_0 fX2_1 fX3_0 fX3_1
          have kX0_0 := GB.cell X0_0.lt X0_0.c0
          have kX0_1 := GB.cell X0_0.lt X0_0.c1
          have kX1_0 := GB.cell X1_0.lt X1_0.c0
          have kX1_1 := GB.cell X1_0.lt X1_0.c1
          have kX2_0 := GB.cell X2_0.lt X2_0.c0
          have kX2_1 := GB.cell X2_0.lt X2_0.c1
          have kX3_0 := GB.cell X3_0.lt X3_0.c0
          have kX3_1 := GB.cell X3_0.lt X3_0.c1
          refine wp_region_gb mixed (by kernel_rfl) ?_
          try simp only [List.append]
          repeat
            with_reducible refine wpQuiet_step (fun K hK => ?_)
            go_simp
            first
              | (with_reducible refine hK _ ?_; clear hK K)
              | (rw [if_neg]; rotate_left; · (intro h; cases h); with_reducible refine hK _ ?_; clear hK K)
              | (apply Exists.intro; with_reducible refine ⟨fun _ => ?_, hK _ ?_⟩; (first | (go_at_call 20; with_reducible refine gb_of (cab.out _)) | (go_at_call 21; with_reducible refine gb_of (dab.out _)) | (go_at_call 20; with_reducible refine gb_of (caa.out _)) | (go_at_call 20; with_reducible refine gb_of (cba.out _))); clear hK K)
          with_reducible refine wpQuiet_nil ?_
          intro w' hw'
          obtain ⟨⟨v1, b1⟩, hw''⟩ := hw'
          have hw3 : v1 = w' := hw''.symm
          subst hw3
          clear hw''
          clear kX0_0 kX0_1 kX1_0 kX1_1 kX2_0 kX2_1 kX3_0 kX3_1
          have X0_1 := X0_0.bl b1
          have X1_1 := X1_0.bl b1
          have X2_1 := X2_0.bl b1
          have X3_1 := X3_0.bl b1
          have hB1 := Bl.trans hB0 b1
          clear X0_0 X1_0 X2_0 X3_0 hB0 b1
          have fX0_0 := X0_1.c0
          have fX0_1 := X0_1.c1
          have fX1_0 := X1_1.c0
          have fX1_1 := X1_1.c1
          have fX2_0 := X2_1.c0
          have fX2_1 := X2_1.c1
          have fX3_0 := X3_1.c0
          have fX3_1 := X3_1.c1
          go_wp2_with fail
          refine (cab.out _).mono ?_
          rintro e v2 ⟨rfl, b2⟩
          clear fX0_0 fX0_1 fX1_0 fX1_1 fX2_0 fX2_1 fX3_0 fX3_1
          have X0_2 := X0_1.bl b2
          have X1_2 := X1_1.bl b2
          have X2_2 := X2_1.bl b2
          have X3_2 := X3_1.bl b2
          have hB2 := Bl.trans hB1 b2
          clear X0_1 X1_1 X2_1 X3_1 hB1 b2
          have fX0_0 := X0_2.c0
          have fX0_1 := X0_2.c1
          have fX1_0 := X1_2.c0
          have fX1_1 := X1_2.c1
          have fX2_0 := X2_2.c0
          have fX2_1 := X2_2.c1
          have fX3_0 := X3_2.c0
          have fX3_1 := X3_2.c1
          go_wp2_with fail
          refine (n1.out _ _ _ (by first | rfl | exact HZ.out.symm)).mono ?_
          rintro e v3 ⟨rfl, hw⟩
          have b3 : Bl v2 v3 := by rw [← hw]; exact (Bl.refl _).alloc _
          clear hw
          clear fX0_0 fX0_1 fX1_0 fX1_1 fX2_0 fX2_1 fX3_0 fX3_1
          have X0_3 := X0_2.bl b3
          have X1_3 := X1_2.bl b3
          have X2_3 := X2_2.bl b3
          have X3_3 := X3_2.bl b3
          have hB3 := Bl.trans hB2 b3
          clear X0_2 X1_2 X2_2 X3_2 hB2 b3
          have fX0_0 := X0_3.c0
          have fX0_1 := X0_3.c1
          have fX1_0 := X1_3.c0
          have fX1_1 := X1_3.c1
          have fX2_0 := X2_3.c0
          have fX2_1 := X2_3.c1
          have fX3_0 := X3_3.c0
          have fX3_1 := X3_3.c1
          go_wp2_with fail
          refine (qab.out _).mono ?_
          rintro e v4 ⟨rfl, b4⟩
          clear fX0_0 fX0_1 fX1_0 fX1_1 fX2_0 fX2_1 fX3_0 fX3_1
          have X0_4 := X0_3.bl b4
          have X1_4 := X1_3.bl b4
          have X2_4 := X2_3.bl b4
          have X3_4 := X3_3.bl b4
          have hB4 := Bl.trans hB3 b4
          clear X0_3 X1_3 X2_3 X3_3 hB3 b4
          have fX0_0 := X0_4.c0
          have fX0_1 := X0_4.c1
          have fX1_0 := X1_4.c0
          have fX1_1 := X1_4.c1
          have fX2_0 := X2_4.c0
          have fX2_1 := X2_4.c1
          have fX3_0 := X3_4.c0
          have fX3_1 := X3_4.c1
          go_wp2_with fail
          refine (qbc.out _).mono ?_
          rintro e v5 ⟨rfl, b5⟩
          clear fX0_0 fX0_1 fX1_0 fX1_1 fX2_0 fX2_1 fX3_0 fX3_1
          have X0_5 := X0_4.bl b5
          have X1_5 := X1_4.bl b5
          have X2_5 := X2_4.bl b5
          have X3_5 := X3_4.bl b5
          have hB5 := Bl.trans hB4 b5
          clear X0_4 X1_4 X2_4 X3_4 hB4 b5
          have fX0_0 := X0_5.c0
          have fX0_1 := X0_5.c1
          have fX1_0 := X1_5.c0
          have fX1_1 := X1_5.c1
          have fX2_0 := X2_5.c0
          have fX2_1 := X2_5.c1
          have fX3_0 := X3_5.c0
          have fX3_1 := X3_5.c1
          go_wp2_with fail
          refine (aw.out _).mono ?_
          rintro e v6 ⟨rfl, b6⟩
          clear fX0_0 fX0_1 fX1_0 fX1_1 fX2_0 fX2_1 fX3_0 fX3_1
          have X0_6 := X0_5.bl b6
          have X1_6 := X1_5.bl b6
          have X2_6 := X2_5.bl b6
          have X3_6 := X3_5.bl b6
          have hB6 := Bl.trans hB5 b6
          clear X0_5 X1_5 X2_5 X3_5 hB5 b6
          have fX0_0 := X0_6.c0
          have fX0_1 := X0_6.c1
          have fX1_0 := X1_6.c0
          have fX1_1 := X1_6.c1
          have fX2_0 := X2_6.c0
          have fX2_1 := X2_6.c1
          have fX3_0 := X3_6.c0
          have fX3_1 := X3_6.c1
          go_wp2_with fail
          go_ret
          exact ⟨rfl, hB6⟩
        · rw [h2] at qbc'
          rw [eqd_tr hn ha hb hc h1 h2] at qac'
          clear h1 h2 hab ha hb hc hn
          generalize les (a0_0, a0_1) (a2_0, a2_1) (a1_0, a1_1) = Lba at *
          generalize les (a0_0, a0_1) (a2_0, a2_1) (a3_0, a3_1) = Lbc at *
          generalize les (a0_0, a0_1) (a1_0, a1_1) (a3_0, a3_1) = Lac at *
          have cab := hid cab'
          have cba := hid cba'
          have cbc := hid cbc'
          have cac := hid cac'
          have caa := hid caa'
          have dab := hid dab'
          have qab := hid qab'
          have qbc := hid qbc'
          have qac := hid qac'
          have n1 := hid n1'
          clear cab' cba' cbc' cac' caa' dab' qab' qbc' qac' n1'
          have mixed : Try.prog.follows .mixedOrders = true := by kernel_rfl
          go_enter Try.func5, Try.ntmps5
          go_wp2_with fail
          obtain ⟨v0, hv0⟩ : ∃ v0, v0 = ((((w.alloc (.cells #[.int .i64 a0_0, .int .i64 a0_1] 23)).alloc (.cells #[.int .i64 a1_0, .int .i64 a1_1] 23)).alloc (.cells #[.int .i64 a2_0, .int .i64 a2_1] 23)).alloc (.cells #[.int .i64 a3_0, .int .i64 a3_1] 23)) := ⟨_, rfl⟩
          have hB0 : Bl w v0 := by rw [hv0]; exact ((((Bl.refl w).alloc _).alloc _).alloc _).alloc _
          have X0_0 : BX v0 (w.heap.size) a0_0 a0_1 := by rw [hv0]; exact (((BX.new (by simp)).al _).al _).al _
          have X1_0 : BX v0 (w.heap.size + 1) a1_0 a1_1 := by rw [hv0]; exact ((BX.new (by simp)).al _).al _
          have X2_0 : BX v0 (w.heap.size + 1 + 1) a2_0 a2_1 := by rw [hv0]; exact (BX.new (by simp)).al _
          have X3_0 : BX v0 (w.heap.size + 1 + 1 + 1) a3_0 a3_1 := by rw [hv0]; exact BX.new (by simp)
          have HZ := hid (show v0.heap.size = w.heap.size + 1 + 1 + 1 + 1 by rw [hv0]; simp)
          rw [← hv0]
          clear hv0
          have fX0_0 := X0_0.c0
          have fX0_1 := X0_0.c1
          have fX1_0 := X1_0.c0
          have fX1_1 := X1_0.c1
          have fX2_0 := X2_0.c0
          have fX2_1 := X2_0.c1
          have fX3_0 := X3_0.c0
          have fX3_1 := X3_0.c1
          clear fX0_0 fX0_1 fX1_0 fX1_1 fX2_0 fX2_1 fX3_0 fX3_1
          have kX0_0 := GB.cell X0_0.lt X0_0.c0
          have kX0_1 := GB.cell X0_0.lt X0_0.c1
          have kX1_0 := GB.cell X1_0.lt X1_0.c0
          have kX1_1 := GB.cell X1_0.lt X1_0.c1
          have kX2_0 := GB.cell X2_0.lt X2_0.c0
          have kX2_1 := GB.cell X2_0.lt X2_0.c1
          have kX3_0 := GB.cell X3_0.lt X3_0.c0
          have kX3_1 := GB.cell X3_0.lt X3_0.c1
          refine wp_region_gb mixed (by kernel_rfl) ?_
          try simp only [List.append]
          repeat
            with_reducible refine wpQuiet_step (fun K hK => ?_)
            go_simp
            first
              | (with_reducible refine hK _ ?_; clear hK K)
              | (rw [if_neg]; rotate_left; · (intro h; cases h); with_reducible refine hK _ ?_; clear hK K)
              | (apply Exists.intro; with_reducible refine ⟨fun _ => ?_, hK _ ?_⟩; (first | (go_at_call 20; with_reducible refine gb_of (cab.out _)) | (go_at_call 21; with_reducible refine gb_of (dab.out _)) | (go_at_call 20; with_reducible refine gb_of (caa.out _)) | (go_at_call 20; with_reducible refine gb_of (cba.out _))); clear hK K)
          with_reducible refine wpQuiet_nil ?_
          intro w' hw'
          obtain ⟨⟨v1, b1⟩, hw''⟩ := hw'
          have hw3 : v1 = w' := hw''.symm
          subst hw3
          clear hw''
          clear kX0_0 kX0_1 kX1_0 kX1_1 kX2_0 kX2_1 kX3_0 kX3_1
          have X0_1 := X0_0.bl b1
          have X1_1 := X1_0.bl b1
          have X2_1 := X2_0.bl b1
          have X3_1 := X3_0.bl b1
          have hB1 := Bl.trans hB0 b1
          clear X0_0 X1_0 X2_0 X3_0 hB0 b1
          have fX0_0 := X0_1.c0
          have fX0_1 := X0_1.c1
          have fX1_0 := X1_1.c0
          have fX1_1 := X1_1.c1
          have fX2_0 := X2_1.c0
          have fX2_1 := X2_1.c1
          have fX3_0 := X3_1.c0
          have fX3_1 := X3_1.c1
          go_wp2_with fail
          refine (cab.out _).mono ?_
          rintro e v2 ⟨rfl, b2⟩
          clear fX0_0 fX0_1 fX1_0 fX1_1 fX2_0 fX2_1 fX3_0 fX3_1
          have X0_2 := X0_1.bl b2
          have X1_2 := X1_1.bl b2
          have X2_2 := X2_1.bl b2
          have X3_2 := X3_1.bl b2
          have hB2 := Bl.trans hB1 b2
          clear X0_1 X1_1 X2_1 X3_1 hB1 b2
          have fX0_0 := X0_2.c0
          have fX0_1 := X0_2.c1
          have fX1_0 := X1_2.c0
          have fX1_1 := X1_2.c1
          have fX2_0 := X2_2.c0
          have fX2_1 := X2_2.c1
          have fX3_0 := X3_2.c0
          have fX3_1 := X3_2.c1
          go_wp2_with fail
          refine (n1.out _ _ _ (by first | rfl | exact HZ.out.symm)).mono ?_
          rintro e v3 ⟨rfl, hw⟩
          have b3 : Bl v2 v3 := by rw [← hw]; exact (Bl.refl _).alloc _
          clear hw
          clear fX0_0 fX0_1 fX1_0 fX1_1 fX2_0 fX2_1 fX3_0 fX3_1
          have X0_3 := X0_2.bl b3
          have X1_3 := X1_2.bl b3
          have X2_3 := X2_2.bl b3
          have X3_3 := X3_2.bl b3
          have hB3 := Bl.trans hB2 b3
          clear X0_2 X1_2 X2_2 X3_2 hB2 b3
          have fX0_0 := X0_3.c0
          have fX0_1 := X0_3.c1
          have fX1_0 := X1_3.c0
          have fX1_1 := X1_3.c1
          have fX2_0 := X2_3.c0
          have fX2_1 := X2_3.c1
          have fX3_0 := X3_3.c0
          have fX3_1 := X3_3.c1
          go_wp2_with fail
          refine (qab.out _).mono ?_
          rintro e v4 ⟨rfl, b4⟩
          clear fX0_0 fX0_1 fX1_0 fX1_1 fX2_0 fX2_1 fX3_0 fX3_1
          have X0_4 := X0_3.bl b4
          have X1_4 := X1_3.bl b4
          have X2_4 := X2_3.bl b4
          have X3_4 := X3_3.bl b4
          have hB4 := Bl.trans hB3 b4
          clear X0_3 X1_3 X2_3 X3_3 hB3 b4
          have fX0_0 := X0_4.c0
          have fX0_1 := X0_4.c1
          have fX1_0 := X1_4.c0
          have fX1_1 := X1_4.c1
          have fX2_0 := X2_4.c0
          have fX2_1 := X2_4.c1
          have fX3_0 := X3_4.c0
          have fX3_1 := X3_4.c1
          go_wp2_with fail
          refine (qbc.out _).mono ?_
          rintro e v5 ⟨rfl, b5⟩
          clear fX0_0 fX0_1 fX1_0 fX1_1 fX2_0 fX2_1 fX3_0 fX3_1
          have X0_5 := X0_4.bl b5
          have X1_5 := X1_4.bl b5
          have X2_5 := X2_4.bl b5
          have X3_5 := X3_4.bl b5
          have hB5 := Bl.trans hB4 b5
          clear X0_4 X1_4 X2_4 X3_4 hB4 b5
          have fX0_0 := X0_5.c0
          have fX0_1 := X0_5.c1
          have fX1_0 := X1_5.c0
          have fX1_1 := X1_5.c1
          have fX2_0 := X2_5.c0
          have fX2_1 := X2_5.c1
          have fX3_0 := X3_5.c0
          have fX3_1 := X3_5.c1
          go_wp2_with fail
          refine (qac.out _).mono ?_
          rintro e v6 ⟨rfl, b6⟩
          clear fX0_0 fX0_1 fX1_0 fX1_1 fX2_0 fX2_1 fX3_0 fX3_1
          have X0_6 := X0_5.bl b6
          have X1_6 := X1_5.bl b6
          have X2_6 := X2_5.bl b6
          have X3_6 := X3_5.bl b6
          have hB6 := Bl.trans hB5 b6
          clear X0_5 X1_5 X2_5 X3_5 hB5 b6
          have fX0_0 := X0_6.c0
          have fX0_1 := X0_6.c1
          have fX1_0 := X1_6.c0
          have fX1_1 := X1_6.c1
          have fX2_0 := X2_6.c0
          have fX2_1 := X2_6.c1
          have fX3_0 := X3_6.c0
          have fX3_1 := X3_6.c1
          go_wp2_with fail
          refine (aw.out _).mono ?_
          rintro e v7 ⟨rfl, b7⟩
          clear fX0_0 fX0_1 fX1_0 fX1_1 fX2_0 fX2_1 fX3_0 fX3_1
          have X0_7 := X0_6.bl b7
          have X1_7 := X1_6.bl b7
          have X2_7 := X2_6.bl b7
          have X3_7 := X3_6.bl b7
          have hB7 := Bl.trans hB6 b7
          clear X0_6 X1_6 X2_6 X3_6 hB6 b7
          have fX0_0 := X0_7.c0
          have fX0_1 := X0_7.c1
          have fX1_0 := X1_7.c0
          have fX1_1 := X1_7.c1
          have fX2_0 := X2_7.c0
          have fX2_1 := X2_7.c1
          have fX3_0 := X3_7.c0
          have fX3_1 := X3_7.c1
          go_wp2_with fail
          go_ret
          exact ⟨rfl, hB7⟩
    · rw [hab] at cab' dab'
      rw [les_asym hab] at cba'
      have h1 : eqd (a0_0, a0_1) (a1_0, a1_1) (a2_0, a2_1) = false := by unfold eqd; rw [hab]; rfl
      rw [h1] at qab'
      cases hbc : les (a0_0, a0_1) (a2_0, a2_1) (a3_0, a3_1)
      · rw [hbc] at cbc'
        clear h1 hbc hab ha hb hc hn
        generalize les (a0_0, a0_1) (a1_0, a1_1) (a3_0, a3_1) = Lac at *
        generalize eqd (a0_0, a0_1) (a2_0, a2_1) (a3_0, a3_1) = Qbc at *
        generalize eqd (a0_0, a0_1) (a1_0, a1_1) (a3_0, a3_1) = Qac at *
        have cab := hid cab'
        have cba := hid cba'
        have cbc := hid cbc'
        have cac := hid cac'
        have caa := hid caa'
        have dab := hid dab'
        have qab := hid qab'
        have qbc := hid qbc'
        have qac := hid qac'
        have n1 := hid n1'
        clear cab' cba' cbc' cac' caa' dab' qab' qbc' qac' n1'
        have mixed : Try.prog.follows .mixedOrders = true := by kernel_rfl
        go_enter Try.func5, Try.ntmps5
        go_wp2_with fail
        obtain ⟨v0, hv0⟩ : ∃ v0, v0 = ((((w.alloc (.cells #[.int .i64 a0_0, .int .i64 a0_1] 23)).alloc (.cells #[.int .i64 a1_0, .int .i64 a1_1] 23)).alloc (.cells #[.int .i64 a2_0, .int .i64 a2_1] 23)).alloc (.cells #[.int .i64 a3_0, .int .i64 a3_1] 23)) := ⟨_, rfl⟩
        have hB0 : Bl w v0 := by rw [hv0]; exact ((((Bl.refl w).alloc _).alloc _).alloc _).alloc _
        have X0_0 : BX v0 (w.heap.size) a0_0 a0_1 := by rw [hv0]; exact (((BX.new (by simp)).al _).al _).al _
        have X1_0 : BX v0 (w.heap.size + 1) a1_0 a1_1 := by rw [hv0]; exact ((BX.new (by simp)).al _).al _
        have X2_0 : BX v0 (w.heap.size + 1 + 1) a2_0 a2_1 := by rw [hv0]; exact (BX.new (by simp)).al _
        have X3_0 : BX v0 (w.heap.size + 1 + 1 + 1) a3_0 a3_1 := by rw [hv0]; exact BX.new (by simp)
        have HZ := hid (show v0.heap.size = w.heap.size + 1 + 1 + 1 + 1 by rw [hv0]; simp)
        rw [← hv0]
        clear hv0
        have fX0_0 := X0_0.c0
        have fX0_1 := X0_0.c1
        have fX1_0 := X1_0.c0
        have fX1_1 := X1_0.c1
        have fX2_0 := X2_0.c0
        have fX2_1 := X2_0.c1
        have fX3_0 := X3_0.c0
        have fX3_1 := X3_0.c1
        clear fX0_0 fX0_1 fX1_0 fX1_1 fX2_0 fX2_1 fX3_0 fX3_1
        have kX0_0 := GB.cell X0_0.lt X0_0.c0
        have kX0_1 := GB.cell X0_0.lt X0_0.c1
        have kX1_0 := GB.cell X1_0.lt X1_0.c0
        have kX1_1 := GB.cell X1_0.lt X1_0.c1
        have kX2_0 := GB.cell X2_0.lt X2_0.c0
        have kX2_1 := GB.cell X2_0.lt X2_0.c1
        have kX3_0 := GB.cell X3_0.lt X3_0.c0
        have kX3_1 := GB.cell X3_0.lt X3_0.c1
        refine wp_region_gb mixed (by kernel_rfl) ?_
        try simp only [List.append]
        repeat
          with_reducible refine wpQuiet_step (fun K hK => ?_)
          go_simp
          first
            | (with_reducible refine hK _ ?_; clear hK K)
            | (rw [if_neg]; rotate_left; · (intro h; cases h); with_reducible refine hK _ ?_; clear hK K)
            | (apply Exists.intro; with_reducible refine ⟨fun _ => ?_, hK _ ?_⟩; (first | (go_at_call 20; with_reducible refine gb_of (cab.out _)) | (go_at_call 21; with_reducible refine gb_of (dab.out _)) | (go_at_call 20; with_reducible refine gb_of (caa.out _)) | (go_at_call 20; with_reducible refine gb_of (cba.out _))); clear hK K)
        with_reducible refine wpQuiet_nil ?_
        intro w' hw'
        obtain ⟨⟨v1, b1⟩, hw''⟩ := hw'
        have hw3 : v1 = w' := hw''.symm
        subst hw3
        clear hw''
        clear kX0_0 kX0_1 kX1_0 kX1_1 kX2_0 kX2_1 kX3_0 kX3_1
        have X0_1 := X0_0.bl b1
        have X1_1 := X1_0.bl b1
        have X2_1 := X2_0.bl b1
        have X3_1 := X3_0.bl b1
        have hB1 := Bl.trans hB0 b1
        clear X0_0 X1_0 X2_0 X3_0 hB0 b1
        have fX0_0 := X0_1.c0
        have fX0_1 := X0_1.c1
        have fX1_0 := X1_1.c0
        have fX1_1 := X1_1.c1
        have fX2_0 := X2_1.c0
        have fX2_1 := X2_1.c1
        have fX3_0 := X3_1.c0
        have fX3_1 := X3_1.c1
        go_wp2_with fail
        refine (cab.out _).mono ?_
        rintro e v2 ⟨rfl, b2⟩
        clear fX0_0 fX0_1 fX1_0 fX1_1 fX2_0 fX2_1 fX3_0 fX3_1
        have X0_2 := X0_1.bl b2
        have X1_2 := X1_1.bl b2
        have X2_2 := X2_1.bl b2
        have X3_2 := X3_1.bl b2
        have hB2 := Bl.trans hB1 b2
        clear X0_1 X1_1 X2_1 X3_1 hB1 b2
        have fX0_0 := X0_2.c0
        have fX0_1 := X0_2.c1
        have fX1_0 := X1_2.c0
        have fX1_1 := X1_2.c1
        have fX2_0 := X2_2.c0
        have fX2_1 := X2_2.c1
        have fX3_0 := X3_2.c0
        have fX3_1 := X3_2.c1
        go_wp2_with fail
        refine (cbc.out _).mono ?_
        rintro e v3 ⟨rfl, b3⟩
        clear fX0_0 fX0_1 fX1_0 fX1_1 fX2_0 fX2_1 fX3_0 fX3_1
        have X0_3 := X0_2.bl b3
        have X1_3 := X1_2.bl b3
        have X2_3 := X2_2.bl b3
        have X3_3 := X3_2.bl b3
        have hB3 := Bl.trans hB2 b3
        clear X0_2 X1_2 X2_2 X3_2 hB2 b3
        have fX0_0 := X0_3.c0
        have fX0_1 := X0_3.c1
        have fX1_0 := X1_3.c0
        have fX1_1 := X1_3.c1
        have fX2_0 := X2_3.c0
        have fX2_1 := X2_3.c1
        have fX3_0 := X3_3.c0
        have fX3_1 := X3_3.c1
        go_wp2_with fail
        refine (n1.out _ _ _ (by first | rfl | exact HZ.out.symm)).mono ?_
        rintro e v4 ⟨rfl, hw⟩
        have b4 : Bl v3 v4 := by rw [← hw]; exact (Bl.refl _).alloc _
        clear hw
        clear fX0_0 fX0_1 fX1_0 fX1_1 fX2_0 fX2_1 fX3_0 fX3_1
        have X0_4 := X0_3.bl b4
        have X1_4 := X1_3.bl b4
        have X2_4 := X2_3.bl b4
        have X3_4 := X3_3.bl b4
        have hB4 := Bl.trans hB3 b4
        clear X0_3 X1_3 X2_3 X3_3 hB3 b4
        have fX0_0 := X0_4.c0
        have fX0_1 := X0_4.c1
        have fX1_0 := X1_4.c0
        have fX1_1 := X1_4.c1
        have fX2_0 := X2_4.c0
        have fX2_1 := X2_4.c1
        have fX3_0 := X3_4.c0
        have fX3_1 := X3_4.c1
        go_wp2_with fail
        refine (qab.out _).mono ?_
        rintro e v5 ⟨rfl, b5⟩
        clear fX0_0 fX0_1 fX1_0 fX1_1 fX2_0 fX2_1 fX3_0 fX3_1
        have X0_5 := X0_4.bl b5
        have X1_5 := X1_4.bl b5
        have X2_5 := X2_4.bl b5
        have X3_5 := X3_4.bl b5
        have hB5 := Bl.trans hB4 b5
        clear X0_4 X1_4 X2_4 X3_4 hB4 b5
        have fX0_0 := X0_5.c0
        have fX0_1 := X0_5.c1
        have fX1_0 := X1_5.c0
        have fX1_1 := X1_5.c1
        have fX2_0 := X2_5.c0
        have fX2_1 := X2_5.c1
        have fX3_0 := X3_5.c0
        have fX3_1 := X3_5.c1
        go_wp2_with fail
        refine (aw.out _).mono ?_
        rintro e v6 ⟨rfl, b6⟩
        clear fX0_0 fX0_1 fX1_0 fX1_1 fX2_0 fX2_1 fX3_0 fX3_1
        have X0_6 := X0_5.bl b6
        have X1_6 := X1_5.bl b6
        have X2_6 := X2_5.bl b6
        have X3_6 := X3_5.bl b6
        have hB6 := Bl.trans hB5 b6
        clear X0_5 X1_5 X2_5 X3_5 hB5 b6
        have fX0_0 := X0_6.c0
        have fX0_1 := X0_6.c1
        have fX1_0 := X1_6.c0
        have fX1_1 := X1_6.c1
        have fX2_0 := X2_6.c0
        have fX2_1 := X2_6.c1
        have fX3_0 := X3_6.c0
        have fX3_1 := X3_6.c1
        go_wp2_with fail
        go_ret
        exact ⟨rfl, hB6⟩
      · rw [hbc] at cbc'
        rw [les_tr hab hbc] at cac'
        clear h1 hbc hab ha hb hc hn
        generalize eqd (a0_0, a0_1) (a2_0, a2_1) (a3_0, a3_1) = Qbc at *
        generalize eqd (a0_0, a0_1) (a1_0, a1_1) (a3_0, a3_1) = Qac at *
        have cab := hid cab'
        have cba := hid cba'
        have cbc := hid cbc'
        have cac := hid cac'
        have caa := hid caa'
        have dab := hid dab'
        have qab := hid qab'
        have qbc := hid qbc'
        have qac := hid qac'
        have n1 := hid n1'
        clear cab' cba' cbc' cac' caa' dab' qab' qbc' qac' n1'
        have mixed : Try.prog.follows .mixedOrders = true := by kernel_rfl
        go_enter Try.func5, Try.ntmps5
        go_wp2_with fail
        obtain ⟨v0, hv0⟩ : ∃ v0, v0 = ((((w.alloc (.cells #[.int .i64 a0_0, .int .i64 a0_1] 23)).alloc (.cells #[.int .i64 a1_0, .int .i64 a1_1] 23)).alloc (.cells #[.int .i64 a2_0, .int .i64 a2_1] 23)).alloc (.cells #[.int .i64 a3_0, .int .i64 a3_1] 23)) := ⟨_, rfl⟩
        have hB0 : Bl w v0 := by rw [hv0]; exact ((((Bl.refl w).alloc _).alloc _).alloc _).alloc _
        have X0_0 : BX v0 (w.heap.size) a0_0 a0_1 := by rw [hv0]; exact (((BX.new (by simp)).al _).al _).al _
        have X1_0 : BX v0 (w.heap.size + 1) a1_0 a1_1 := by rw [hv0]; exact ((BX.new (by simp)).al _).al _
        have X2_0 : BX v0 (w.heap.size + 1 + 1) a2_0 a2_1 := by rw [hv0]; exact (BX.new (by simp)).al _
        have X3_0 : BX v0 (w.heap.size + 1 + 1 + 1) a3_0 a3_1 := by rw [hv0]; exact BX.new (by simp)
        have HZ := hid (show v0.heap.size = w.heap.size + 1 + 1 + 1 + 1 by rw [hv0]; simp)
        rw [← hv0]
        clear hv0
        have fX0_0 := X0_0.c0
        have fX0_1 := X0_0.c1
        have fX1_0 := X1_0.c0
        have fX1_1 := X1_0.c1
        have fX2_0 := X2_0.c0
        have fX2_1 := X2_0.c1
        have fX3_0 := X3_0.c0
        have fX3_1 := X3_0.c1
        clear fX0_0 fX0_1 fX1_0 fX1_1 fX2_0 fX2_1 fX3_0 fX3_1
        have kX0_0 := GB.cell X0_0.lt X0_0.c0
        have kX0_1 := GB.cell X0_0.lt X0_0.c1
        have kX1_0 := GB.cell X1_0.lt X1_0.c0
        have kX1_1 := GB.cell X1_0.lt X1_0.c1
        have kX2_0 := GB.cell X2_0.lt X2_0.c0
        have kX2_1 := GB.cell X2_0.lt X2_0.c1
        have kX3_0 := GB.cell X3_0.lt X3_0.c0
        have kX3_1 := GB.cell X3_0.lt X3_0.c1
        refine wp_region_gb mixed (by kernel_rfl) ?_
        try simp only [List.append]
        repeat
          with_reducible refine wpQuiet_step (fun K hK => ?_)
          go_simp
          first
            | (with_reducible refine hK _ ?_; clear hK K)
            | (rw [if_neg]; rotate_left; · (intro h; cases h); with_reducible refine hK _ ?_; clear hK K)
            | (apply Exists.intro; with_reducible refine ⟨fun _ => ?_, hK _ ?_⟩; (first | (go_at_call 20; with_reducible refine gb_of (cab.out _)) | (go_at_call 21; with_reducible refine gb_of (dab.out _)) | (go_at_call 20; with_reducible refine gb_of (caa.out _)) | (go_at_call 20; with_reducible refine gb_of (cba.out _))); clear hK K)
        with_reducible refine wpQuiet_nil ?_
        intro w' hw'
        obtain ⟨⟨v1, b1⟩, hw''⟩ := hw'
        have hw3 : v1 = w' := hw''.symm
        subst hw3
        clear hw''
        clear kX0_0 kX0_1 kX1_0 kX1_1 kX2_0 kX2_1 kX3_0 kX3_1
        have X0_1 := X0_0.bl b1
        have X1_1 := X1_0.bl b1
        have X2_1 := X2_0.bl b1
        have X3_1 := X3_0.bl b1
        have hB1 := Bl.trans hB0 b1
        clear X0_0 X1_0 X2_0 X3_0 hB0 b1
        have fX0_0 := X0_1.c0
        have fX0_1 := X0_1.c1
        have fX1_0 := X1_1.c0
        have fX1_1 := X1_1.c1
        have fX2_0 := X2_1.c0
        have fX2_1 := X2_1.c1
        have fX3_0 := X3_1.c0
        have fX3_1 := X3_1.c1
        go_wp2_with fail
        refine (cab.out _).mono ?_
        rintro e v2 ⟨rfl, b2⟩
        clear fX0_0 fX0_1 fX1_0 fX1_1 fX2_0 fX2_1 fX3_0 fX3_1
        have X0_2 := X0_1.bl b2
        have X1_2 := X1_1.bl b2
        have X2_2 := X2_1.bl b2
        have X3_2 := X3_1.bl b2
        have hB2 := Bl.trans hB1 b2
        clear X0_1 X1_1 X2_1 X3_1 hB1 b2
        have fX0_0 := X0_2.c0
        have fX0_1 := X0_2.c1
        have fX1_0 := X1_2.c0
        have fX1_1 := X1_2.c1
        have fX2_0 := X2_2.c0
        have fX2_1 := X2_2.c1
        have fX3_0 := X3_2.c0
        have fX3_1 := X3_2.c1
        go_wp2_with fail
        refine (cbc.out _).mono ?_
        rintro e v3 ⟨rfl, b3⟩
        clear fX0_0 fX0_1 fX1_0 fX1_1 fX2_0 fX2_1 fX3_0 fX3_1
        have X0_3 := X0_2.bl b3
        have X1_3 := X1_2.bl b3
        have X2_3 := X2_2.bl b3
        have X3_3 := X3_2.bl b3
        have hB3 := Bl.trans hB2 b3
        clear X0_2 X1_2 X2_2 X3_2 hB2 b3
        have fX0_0 := X0_3.c0
        have fX0_1 := X0_3.c1
        have fX1_0 := X1_3.c0
        have fX1_1 := X1_3.c1
        have fX2_0 := X2_3.c0
        have fX2_1 := X2_3.c1
        have fX3_0 := X3_3.c0
        have fX3_1 := X3_3.c1
        go_wp2_with fail
        refine (cac.out _).mono ?_
        rintro e v4 ⟨rfl, b4⟩
        clear fX0_0 fX0_1 fX1_0 fX1_1 fX2_0 fX2_1 fX3_0 fX3_1
        have X0_4 := X0_3.bl b4
        have X1_4 := X1_3.bl b4
        have X2_4 := X2_3.bl b4
        have X3_4 := X3_3.bl b4
        have hB4 := Bl.trans hB3 b4
        clear X0_3 X1_3 X2_3 X3_3 hB3 b4
        have fX0_0 := X0_4.c0
        have fX0_1 := X0_4.c1
        have fX1_0 := X1_4.c0
        have fX1_1 := X1_4.c1
        have fX2_0 := X2_4.c0
        have fX2_1 := X2_4.c1
        have fX3_0 := X3_4.c0
        have fX3_1 := X3_4.c1
        go_wp2_with fail
        refine (n1.out _ _ _ (by first | rfl | exact HZ.out.symm)).mono ?_
        rintro e v5 ⟨rfl, hw⟩
        have b5 : Bl v4 v5 := by rw [← hw]; exact (Bl.refl _).alloc _
        clear hw
        clear fX0_0 fX0_1 fX1_0 fX1_1 fX2_0 fX2_1 fX3_0 fX3_1
        have X0_5 := X0_4.bl b5
        have X1_5 := X1_4.bl b5
        have X2_5 := X2_4.bl b5
        have X3_5 := X3_4.bl b5
        have hB5 := Bl.trans hB4 b5
        clear X0_4 X1_4 X2_4 X3_4 hB4 b5
        have fX0_0 := X0_5.c0
        have fX0_1 := X0_5.c1
        have fX1_0 := X1_5.c0
        have fX1_1 := X1_5.c1
        have fX2_0 := X2_5.c0
        have fX2_1 := X2_5.c1
        have fX3_0 := X3_5.c0
        have fX3_1 := X3_5.c1
        go_wp2_with fail
        refine (qab.out _).mono ?_
        rintro e v6 ⟨rfl, b6⟩
        clear fX0_0 fX0_1 fX1_0 fX1_1 fX2_0 fX2_1 fX3_0 fX3_1
        have X0_6 := X0_5.bl b6
        have X1_6 := X1_5.bl b6
        have X2_6 := X2_5.bl b6
        have X3_6 := X3_5.bl b6
        have hB6 := Bl.trans hB5 b6
        clear X0_5 X1_5 X2_5 X3_5 hB5 b6
        have fX0_0 := X0_6.c0
        have fX0_1 := X0_6.c1
        have fX1_0 := X1_6.c0
        have fX1_1 := X1_6.c1
        have fX2_0 := X2_6.c0
        have fX2_1 := X2_6.c1
        have fX3_0 := X3_6.c0
        have fX3_1 := X3_6.c1
        go_wp2_with fail
        refine (aw.out _).mono ?_
        rintro e v7 ⟨rfl, b7⟩
        clear fX0_0 fX0_1 fX1_0 fX1_1 fX2_0 fX2_1 fX3_0 fX3_1
        have X0_7 := X0_6.bl b7
        have X1_7 := X1_6.bl b7
        have X2_7 := X2_6.bl b7
        have X3_7 := X3_6.bl b7
        have hB7 := Bl.trans hB6 b7
        clear X0_6 X1_6 X2_6 X3_6 hB6 b7
        have fX0_0 := X0_7.c0
        have fX0_1 := X0_7.c1
        have fX1_0 := X1_7.c0
        have fX1_1 := X1_7.c1
        have fX2_0 := X2_7.c0
        have fX2_1 := X2_7.c1
        have fX3_0 := X3_7.c0
        have fX3_1 := X3_7.c1
        go_wp2_with fail
        go_ret
        exact ⟨rfl, hB7⟩
  · rw [decide_eq_false hn] at n1'
    cases hab : les (a0_0, a0_1) (a1_0, a1_1) (a2_0, a2_1)
    · rw [hab] at cab' dab'
      clear hab ha hb hc hn
      generalize les (a0_0, a0_1) (a2_0, a2_1) (a1_0, a1_1) = Lba at *
      generalize les (a0_0, a0_1) (a2_0, a2_1) (a3_0, a3_1) = Lbc at *
      generalize les (a0_0, a0_1) (a1_0, a1_1) (a3_0, a3_1) = Lac at *
      generalize eqd (a0_0, a0_1) (a1_0, a1_1) (a2_0, a2_1) = Qab at *
      generalize eqd (a0_0, a0_1) (a2_0, a2_1) (a3_0, a3_1) = Qbc at *
      generalize eqd (a0_0, a0_1) (a1_0, a1_1) (a3_0, a3_1) = Qac at *
      have cab := hid cab'
      have cba := hid cba'
      have cbc := hid cbc'
      have cac := hid cac'
      have caa := hid caa'
      have dab := hid dab'
      have qab := hid qab'
      have qbc := hid qbc'
      have qac := hid qac'
      have n1 := hid n1'
      clear cab' cba' cbc' cac' caa' dab' qab' qbc' qac' n1'
      have mixed : Try.prog.follows .mixedOrders = true := by kernel_rfl
      go_enter Try.func5, Try.ntmps5
      go_wp2_with fail
      obtain ⟨v0, hv0⟩ : ∃ v0, v0 = ((((w.alloc (.cells #[.int .i64 a0_0, .int .i64 a0_1] 23)).alloc (.cells #[.int .i64 a1_0, .int .i64 a1_1] 23)).alloc (.cells #[.int .i64 a2_0, .int .i64 a2_1] 23)).alloc (.cells #[.int .i64 a3_0, .int .i64 a3_1] 23)) := ⟨_, rfl⟩
      have hB0 : Bl w v0 := by rw [hv0]; exact ((((Bl.refl w).alloc _).alloc _).alloc _).alloc _
      have X0_0 : BX v0 (w.heap.size) a0_0 a0_1 := by rw [hv0]; exact (((BX.new (by simp)).al _).al _).al _
      have X1_0 : BX v0 (w.heap.size + 1) a1_0 a1_1 := by rw [hv0]; exact ((BX.new (by simp)).al _).al _
      have X2_0 : BX v0 (w.heap.size + 1 + 1) a2_0 a2_1 := by rw [hv0]; exact (BX.new (by simp)).al _
      have X3_0 : BX v0 (w.heap.size + 1 + 1 + 1) a3_0 a3_1 := by rw [hv0]; exact BX.new (by simp)
      have HZ := hid (show v0.heap.size = w.heap.size + 1 + 1 + 1 + 1 by rw [hv0]; simp)
      rw [← hv0]
      clear hv0
      have fX0_0 := X0_0.c0
      have fX0_1 := X0_0.c1
      have fX1_0 := X1_0.c0
      have fX1_1 := X1_0.c1
      have fX2_0 := X2_0.c0
      have fX2_1 := X2_0.c1
      have fX3_0 := X3_0.c0
      have fX3_1 := X3_0.c1
      clear fX0_0 fX0_1 fX1_0 fX1_1 fX2_0 fX2_1 fX3_0 fX3_1
      have kX0_0 := GB.cell X0_0.lt X0_0.c0
      have kX0_1 := GB.cell X0_0.lt X0_0.c1
      have kX1_0 := GB.cell X1_0.lt X1_0.c0
      have kX1_1 := GB.cell X1_0.lt X1_0.c1
      have kX2_0 := GB.cell X2_0.lt X2_0.c0
      have kX2_1 := GB.cell X2_0.lt X2_0.c1
      have kX3_0 := GB.cell X3_0.lt X3_0.c0
      have kX3_1 := GB.cell X3_0.lt X3_0.c1
      refine wp_region_gb mixed (by kernel_rfl) ?_
      try simp only [List.append]
      repeat
        with_reducible refine wpQuiet_step (fun K hK => ?_)
        go_simp
        first
          | (with_reducible refine hK _ ?_; clear hK K)
          | (rw [if_neg]; rotate_left; · (intro h; cases h); with_reducible refine hK _ ?_; clear hK K)
          | (apply Exists.intro; with_reducible refine ⟨fun _ => ?_, hK _ ?_⟩; (first | (go_at_call 20; with_reducible refine gb_of (cab.out _)) | (go_at_call 21; with_reducible refine gb_of (dab.out _)) | (go_at_call 20; with_reducible refine gb_of (caa.out _)) | (go_at_call 20; with_reducible refine gb_of (cba.out _))); clear hK K)
      with_reducible refine wpQuiet_nil ?_
      intro w' hw'
      obtain ⟨⟨v1, b1⟩, hw''⟩ := hw'
      have hw3 : v1 = w' := hw''.symm
      subst hw3
      clear hw''
      clear kX0_0 kX0_1 kX1_0 kX1_1 kX2_0 kX2_1 kX3_0 kX3_1
      have X0_1 := X0_0.bl b1
      have X1_1 := X1_0.bl b1
      have X2_1 := X2_0.bl b1
      have X3_1 := X3_0.bl b1
      have hB1 := Bl.trans hB0 b1
      clear X0_0 X1_0 X2_0 X3_0 hB0 b1
      have fX0_0 := X0_1.c0
      have fX0_1 := X0_1.c1
      have fX1_0 := X1_1.c0
      have fX1_1 := X1_1.c1
      have fX2_0 := X2_1.c0
      have fX2_1 := X2_1.c1
      have fX3_0 := X3_1.c0
      have fX3_1 := X3_1.c1
      go_wp2_with fail
      refine (cab.out _).mono ?_
      rintro e v2 ⟨rfl, b2⟩
      clear fX0_0 fX0_1 fX1_0 fX1_1 fX2_0 fX2_1 fX3_0 fX3_1
      have X0_2 := X0_1.bl b2
      have X1_2 := X1_1.bl b2
      have X2_2 := X2_1.bl b2
      have X3_2 := X3_1.bl b2
      have hB2 := Bl.trans hB1 b2
      clear X0_1 X1_1 X2_1 X3_1 hB1 b2
      have fX0_0 := X0_2.c0
      have fX0_1 := X0_2.c1
      have fX1_0 := X1_2.c0
      have fX1_1 := X1_2.c1
      have fX2_0 := X2_2.c0
      have fX2_1 := X2_2.c1
      have fX3_0 := X3_2.c0
      have fX3_1 := X3_2.c1
      go_wp2_with fail
      refine (n1.out _ _ _ (by first | rfl | exact HZ.out.symm)).mono ?_
      rintro e v3 ⟨rfl, hw⟩
      have b3 : Bl v2 v3 := by rw [← hw]; exact (Bl.refl _).alloc _
      clear hw
      clear fX0_0 fX0_1 fX1_0 fX1_1 fX2_0 fX2_1 fX3_0 fX3_1
      have X0_3 := X0_2.bl b3
      have X1_3 := X1_2.bl b3
      have X2_3 := X2_2.bl b3
      have X3_3 := X3_2.bl b3
      have hB3 := Bl.trans hB2 b3
      clear X0_2 X1_2 X2_2 X3_2 hB2 b3
      have fX0_0 := X0_3.c0
      have fX0_1 := X0_3.c1
      have fX1_0 := X1_3.c0
      have fX1_1 := X1_3.c1
      have fX2_0 := X2_3.c0
      have fX2_1 := X2_3.c1
      have fX3_0 := X3_3.c0
      have fX3_1 := X3_3.c1
      go_wp2_with fail
      refine (aw.out _).mono ?_
      rintro e v4 ⟨rfl, b4⟩
      clear fX0_0 fX0_1 fX1_0 fX1_1 fX2_0 fX2_1 fX3_0 fX3_1
      have X0_4 := X0_3.bl b4
      have X1_4 := X1_3.bl b4
      have X2_4 := X2_3.bl b4
      have X3_4 := X3_3.bl b4
      have hB4 := Bl.trans hB3 b4
      clear X0_3 X1_3 X2_3 X3_3 hB3 b4
      have fX0_0 := X0_4.c0
      have fX0_1 := X0_4.c1
      have fX1_0 := X1_4.c0
      have fX1_1 := X1_4.c1
      have fX2_0 := X2_4.c0
      have fX2_1 := X2_4.c1
      have fX3_0 := X3_4.c0
      have fX3_1 := X3_4.c1
      go_wp2_with fail
      go_ret
      exact ⟨rfl, hB4⟩
    · rw [hab] at cab' dab'
      rw [les_asym hab] at cba'
      cases hbc : les (a0_0, a0_1) (a2_0, a2_1) (a3_0, a3_1)
      · rw [hbc] at cbc'
        clear hbc hab ha hb hc hn
        generalize les (a0_0, a0_1) (a1_0, a1_1) (a3_0, a3_1) = Lac at *
        generalize eqd (a0_0, a0_1) (a1_0, a1_1) (a2_0, a2_1) = Qab at *
        generalize eqd (a0_0, a0_1) (a2_0, a2_1) (a3_0, a3_1) = Qbc at *
        generalize eqd (a0_0, a0_1) (a1_0, a1_1) (a3_0, a3_1) = Qac at *
        have cab := hid cab'
        have cba := hid cba'
        have cbc := hid cbc'
        have cac := hid cac'
        have caa := hid caa'
        have dab := hid dab'
        have qab := hid qab'
        have qbc := hid qbc'
        have qac := hid qac'
        have n1 := hid n1'
        clear cab' cba' cbc' cac' caa' dab' qab' qbc' qac' n1'
        have mixed : Try.prog.follows .mixedOrders = true := by kernel_rfl
        go_enter Try.func5, Try.ntmps5
        go_wp2_with fail
        obtain ⟨v0, hv0⟩ : ∃ v0, v0 = ((((w.alloc (.cells #[.int .i64 a0_0, .int .i64 a0_1] 23)).alloc (.cells #[.int .i64 a1_0, .int .i64 a1_1] 23)).alloc (.cells #[.int .i64 a2_0, .int .i64 a2_1] 23)).alloc (.cells #[.int .i64 a3_0, .int .i64 a3_1] 23)) := ⟨_, rfl⟩
        have hB0 : Bl w v0 := by rw [hv0]; exact ((((Bl.refl w).alloc _).alloc _).alloc _).alloc _
        have X0_0 : BX v0 (w.heap.size) a0_0 a0_1 := by rw [hv0]; exact (((BX.new (by simp)).al _).al _).al _
        have X1_0 : BX v0 (w.heap.size + 1) a1_0 a1_1 := by rw [hv0]; exact ((BX.new (by simp)).al _).al _
        have X2_0 : BX v0 (w.heap.size + 1 + 1) a2_0 a2_1 := by rw [hv0]; exact (BX.new (by simp)).al _
        have X3_0 : BX v0 (w.heap.size + 1 + 1 + 1) a3_0 a3_1 := by rw [hv0]; exact BX.new (by simp)
        have HZ := hid (show v0.heap.size = w.heap.size + 1 + 1 + 1 + 1 by rw [hv0]; simp)
        rw [← hv0]
        clear hv0
        have fX0_0 := X0_0.c0
        have fX0_1 := X0_0.c1
        have fX1_0 := X1_0.c0
        have fX1_1 := X1_0.c1
        have fX2_0 := X2_0.c0
        have fX2_1 := X2_0.c1
        have fX3_0 := X3_0.c0
        have fX3_1 := X3_0.c1
        clear fX0_0 fX0_1 fX1_0 fX1_1 fX2_0 fX2_1 fX3_0 fX3_1
        have kX0_0 := GB.cell X0_0.lt X0_0.c0
        have kX0_1 := GB.cell X0_0.lt X0_0.c1
        have kX1_0 := GB.cell X1_0.lt X1_0.c0
        have kX1_1 := GB.cell X1_0.lt X1_0.c1
        have kX2_0 := GB.cell X2_0.lt X2_0.c0
        have kX2_1 := GB.cell X2_0.lt X2_0.c1
        have kX3_0 := GB.cell X3_0.lt X3_0.c0
        have kX3_1 := GB.cell X3_0.lt X3_0.c1
        refine wp_region_gb mixed (by kernel_rfl) ?_
        try simp only [List.append]
        repeat
          with_reducible refine wpQuiet_step (fun K hK => ?_)
          go_simp
          first
            | (with_reducible refine hK _ ?_; clear hK K)
            | (rw [if_neg]; rotate_left; · (intro h; cases h); with_reducible refine hK _ ?_; clear hK K)
            | (apply Exists.intro; with_reducible refine ⟨fun _ => ?_, hK _ ?_⟩; (first | (go_at_call 20; with_reducible refine gb_of (cab.out _)) | (go_at_call 21; with_reducible refine gb_of (dab.out _)) | (go_at_call 20; with_reducible refine gb_of (caa.out _)) | (go_at_call 20; with_reducible refine gb_of (cba.out _))); clear hK K)
        with_reducible refine wpQuiet_nil ?_
        intro w' hw'
        obtain ⟨⟨v1, b1⟩, hw''⟩ := hw'
        have hw3 : v1 = w' := hw''.symm
        subst hw3
        clear hw''
        clear kX0_0 kX0_1 kX1_0 kX1_1 kX2_0 kX2_1 kX3_0 kX3_1
        have X0_1 := X0_0.bl b1
        have X1_1 := X1_0.bl b1
        have X2_1 := X2_0.bl b1
        have X3_1 := X3_0.bl b1
        have hB1 := Bl.trans hB0 b1
        clear X0_0 X1_0 X2_0 X3_0 hB0 b1
        have fX0_0 := X0_1.c0
        have fX0_1 := X0_1.c1
        have fX1_0 := X1_1.c0
        have fX1_1 := X1_1.c1
        have fX2_0 := X2_1.c0
        have fX2_1 := X2_1.c1
        have fX3_0 := X3_1.c0
        have fX3_1 := X3_1.c1
        go_wp2_with fail
        refine (cab.out _).mono ?_
        rintro e v2 ⟨rfl, b2⟩
        clear fX0_0 fX0_1 fX1_0 fX1_1 fX2_0 fX2_1 fX3_0 fX3_1
        have X0_2 := X0_1.bl b2
        have X1_2 := X1_1.bl b2
        have X2_2 := X2_1.bl b2
        have X3_2 := X3_1.bl b2
        have hB2 := Bl.trans hB1 b2
        clear X0_1 X1_1 X2_1 X3_1 hB1 b2
        have fX0_0 := X0_2.c0
        have fX0_1 := X0_2.c1
        have fX1_0 := X1_2.c0
        have fX1_1 := X1_2.c1
        have fX2_0 := X2_2.c0
        have fX2_1 := X2_2.c1
        have fX3_0 := X3_2.c0
        have fX3_1 := X3_2.c1
        go_wp2_with fail
        refine (cbc.out _).mono ?_
        rintro e v3 ⟨rfl, b3⟩
        clear fX0_0 fX0_1 fX1_0 fX1_1 fX2_0 fX2_1 fX3_0 fX3_1
        have X0_3 := X0_2.bl b3
        have X1_3 := X1_2.bl b3
        have X2_3 := X2_2.bl b3
        have X3_3 := X3_2.bl b3
        have hB3 := Bl.trans hB2 b3
        clear X0_2 X1_2 X2_2 X3_2 hB2 b3
        have fX0_0 := X0_3.c0
        have fX0_1 := X0_3.c1
        have fX1_0 := X1_3.c0
        have fX1_1 := X1_3.c1
        have fX2_0 := X2_3.c0
        have fX2_1 := X2_3.c1
        have fX3_0 := X3_3.c0
        have fX3_1 := X3_3.c1
        go_wp2_with fail
        refine (n1.out _ _ _ (by first | rfl | exact HZ.out.symm)).mono ?_
        rintro e v4 ⟨rfl, hw⟩
        have b4 : Bl v3 v4 := by rw [← hw]; exact (Bl.refl _).alloc _
        clear hw
        clear fX0_0 fX0_1 fX1_0 fX1_1 fX2_0 fX2_1 fX3_0 fX3_1
        have X0_4 := X0_3.bl b4
        have X1_4 := X1_3.bl b4
        have X2_4 := X2_3.bl b4
        have X3_4 := X3_3.bl b4
        have hB4 := Bl.trans hB3 b4
        clear X0_3 X1_3 X2_3 X3_3 hB3 b4
        have fX0_0 := X0_4.c0
        have fX0_1 := X0_4.c1
        have fX1_0 := X1_4.c0
        have fX1_1 := X1_4.c1
        have fX2_0 := X2_4.c0
        have fX2_1 := X2_4.c1
        have fX3_0 := X3_4.c0
        have fX3_1 := X3_4.c1
        go_wp2_with fail
        refine (aw.out _).mono ?_
        rintro e v5 ⟨rfl, b5⟩
        clear fX0_0 fX0_1 fX1_0 fX1_1 fX2_0 fX2_1 fX3_0 fX3_1
        have X0_5 := X0_4.bl b5
        have X1_5 := X1_4.bl b5
        have X2_5 := X2_4.bl b5
        have X3_5 := X3_4.bl b5
        have hB5 := Bl.trans hB4 b5
        clear X0_4 X1_4 X2_4 X3_4 hB4 b5
        have fX0_0 := X0_5.c0
        have fX0_1 := X0_5.c1
        have fX1_0 := X1_5.c0
        have fX1_1 := X1_5.c1
        have fX2_0 := X2_5.c0
        have fX2_1 := X2_5.c1
        have fX3_0 := X3_5.c0
        have fX3_1 := X3_5.c1
        go_wp2_with fail
        go_ret
        exact ⟨rfl, hB5⟩
      · rw [hbc] at cbc'
        rw [les_tr hab hbc] at cac'
        clear hbc hab ha hb hc hn
        generalize eqd (a0_0, a0_1) (a1_0, a1_1) (a2_0, a2_1) = Qab at *
        generalize eqd (a0_0, a0_1) (a2_0, a2_1) (a3_0, a3_1) = Qbc at *
        generalize eqd (a0_0, a0_1) (a1_0, a1_1) (a3_0, a3_1) = Qac at *
        have cab := hid cab'
        have cba := hid cba'
        have cbc := hid cbc'
        have cac := hid cac'
        have caa := hid caa'
        have dab := hid dab'
        have qab := hid qab'
        have qbc := hid qbc'
        have qac := hid qac'
        have n1 := hid n1'
        clear cab' cba' cbc' cac' caa' dab' qab' qbc' qac' n1'
        have mixed : Try.prog.follows .mixedOrders = true := by kernel_rfl
        go_enter Try.func5, Try.ntmps5
        go_wp2_with fail
        obtain ⟨v0, hv0⟩ : ∃ v0, v0 = ((((w.alloc (.cells #[.int .i64 a0_0, .int .i64 a0_1] 23)).alloc (.cells #[.int .i64 a1_0, .int .i64 a1_1] 23)).alloc (.cells #[.int .i64 a2_0, .int .i64 a2_1] 23)).alloc (.cells #[.int .i64 a3_0, .int .i64 a3_1] 23)) := ⟨_, rfl⟩
        have hB0 : Bl w v0 := by rw [hv0]; exact ((((Bl.refl w).alloc _).alloc _).alloc _).alloc _
        have X0_0 : BX v0 (w.heap.size) a0_0 a0_1 := by rw [hv0]; exact (((BX.new (by simp)).al _).al _).al _
        have X1_0 : BX v0 (w.heap.size + 1) a1_0 a1_1 := by rw [hv0]; exact ((BX.new (by simp)).al _).al _
        have X2_0 : BX v0 (w.heap.size + 1 + 1) a2_0 a2_1 := by rw [hv0]; exact (BX.new (by simp)).al _
        have X3_0 : BX v0 (w.heap.size + 1 + 1 + 1) a3_0 a3_1 := by rw [hv0]; exact BX.new (by simp)
        have HZ := hid (show v0.heap.size = w.heap.size + 1 + 1 + 1 + 1 by rw [hv0]; simp)
        rw [← hv0]
        clear hv0
        have fX0_0 := X0_0.c0
        have fX0_1 := X0_0.c1
        have fX1_0 := X1_0.c0
        have fX1_1 := X1_0.c1
        have fX2_0 := X2_0.c0
        have fX2_1 := X2_0.c1
        have fX3_0 := X3_0.c0
        have fX3_1 := X3_0.c1
        clear fX0_0 fX0_1 fX1_0 fX1_1 fX2_0 fX2_1 fX3_0 fX3_1
        have kX0_0 := GB.cell X0_0.lt X0_0.c0
        have kX0_1 := GB.cell X0_0.lt X0_0.c1
        have kX1_0 := GB.cell X1_0.lt X1_0.c0
        have kX1_1 := GB.cell X1_0.lt X1_0.c1
        have kX2_0 := GB.cell X2_0.lt X2_0.c0
        have kX2_1 := GB.cell X2_0.lt X2_0.c1
        have kX3_0 := GB.cell X3_0.lt X3_0.c0
        have kX3_1 := GB.cell X3_0.lt X3_0.c1
        refine wp_region_gb mixed (by kernel_rfl) ?_
        try simp only [List.append]
        repeat
          with_reducible refine wpQuiet_step (fun K hK => ?_)
          go_simp
          first
            | (with_reducible refine hK _ ?_; clear hK K)
            | (rw [if_neg]; rotate_left; · (intro h; cases h); with_reducible refine hK _ ?_; clear hK K)
            | (apply Exists.intro; with_reducible refine ⟨fun _ => ?_, hK _ ?_⟩; (first | (go_at_call 20; with_reducible refine gb_of (cab.out _)) | (go_at_call 21; with_reducible refine gb_of (dab.out _)) | (go_at_call 20; with_reducible refine gb_of (caa.out _)) | (go_at_call 20; with_reducible refine gb_of (cba.out _))); clear hK K)
        with_reducible refine wpQuiet_nil ?_
        intro w' hw'
        obtain ⟨⟨v1, b1⟩, hw''⟩ := hw'
        have hw3 : v1 = w' := hw''.symm
        subst hw3
        clear hw''
        clear kX0_0 kX0_1 kX1_0 kX1_1 kX2_0 kX2_1 kX3_0 kX3_1
        have X0_1 := X0_0.bl b1
        have X1_1 := X1_0.bl b1
        have X2_1 := X2_0.bl b1
        have X3_1 := X3_0.bl b1
        have hB1 := Bl.trans hB0 b1
        clear X0_0 X1_0 X2_0 X3_0 hB0 b1
        have fX0_0 := X0_1.c0
        have fX0_1 := X0_1.c1
        have fX1_0 := X1_1.c0
        have fX1_1 := X1_1.c1
        have fX2_0 := X2_1.c0
        have fX2_1 := X2_1.c1
        have fX3_0 := X3_1.c0
        have fX3_1 := X3_1.c1
        go_wp2_with fail
        refine (cab.out _).mono ?_
        rintro e v2 ⟨rfl, b2⟩
        clear fX0_0 fX0_1 fX1_0 fX1_1 fX2_0 fX2_1 fX3_0 fX3_1
        have X0_2 := X0_1.bl b2
        have X1_2 := X1_1.bl b2
        have X2_2 := X2_1.bl b2
        have X3_2 := X3_1.bl b2
        have hB2 := Bl.trans hB1 b2
        clear X0_1 X1_1 X2_1 X3_1 hB1 b2
        have fX0_0 := X0_2.c0
        have fX0_1 := X0_2.c1
        have fX1_0 := X1_2.c0
        have fX1_1 := X1_2.c1
        have fX2_0 := X2_2.c0
        have fX2_1 := X2_2.c1
        have fX3_0 := X3_2.c0
        have fX3_1 := X3_2.c1
        go_wp2_with fail
        refine (cbc.out _).mono ?_
        rintro e v3 ⟨rfl, b3⟩
        clear fX0_0 fX0_1 fX1_0 fX1_1 fX2_0 fX2_1 fX3_0 fX3_1
        have X0_3 := X0_2.bl b3
        have X1_3 := X1_2.bl b3
        have X2_3 := X2_2.bl b3
        have X3_3 := X3_2.bl b3
        have hB3 := Bl.trans hB2 b3
        clear X0_2 X1_2 X2_2 X3_2 hB2 b3
        have fX0_0 := X0_3.c0
        have fX0_1 := X0_3.c1
        have fX1_0 := X1_3.c0
        have fX1_1 := X1_3.c1
        have fX2_0 := X2_3.c0
        have fX2_1 := X2_3.c1
        have fX3_0 := X3_3.c0
        have fX3_1 := X3_3.c1
        go_wp2_with fail
        refine (cac.out _).mono ?_
        rintro e v4 ⟨rfl, b4⟩
        clear fX0_0 fX0_1 fX1_0 fX1_1 fX2_0 fX2_1 fX3_0 fX3_1
        have X0_4 := X0_3.bl b4
        have X1_4 := X1_3.bl b4
        have X2_4 := X2_3.bl b4
        have X3_4 := X3_3.bl b4
        have hB4 := Bl.trans hB3 b4
        clear X0_3 X1_3 X2_3 X3_3 hB3 b4
        have fX0_0 := X0_4.c0
        have fX0_1 := X0_4.c1
        have fX1_0 := X1_4.c0
        have fX1_1 := X1_4.c1
        have fX2_0 := X2_4.c0
        have fX2_1 := X2_4.c1
        have fX3_0 := X3_4.c0
        have fX3_1 := X3_4.c1
        go_wp2_with fail
        refine (n1.out _ _ _ (by first | rfl | exact HZ.out.symm)).mono ?_
        rintro e v5 ⟨rfl, hw⟩
        have b5 : Bl v4 v5 := by rw [← hw]; exact (Bl.refl _).alloc _
        clear hw
        clear fX0_0 fX0_1 fX1_0 fX1_1 fX2_0 fX2_1 fX3_0 fX3_1
        have X0_5 := X0_4.bl b5
        have X1_5 := X1_4.bl b5
        have X2_5 := X2_4.bl b5
        have X3_5 := X3_4.bl b5
        have hB5 := Bl.trans hB4 b5
        clear X0_4 X1_4 X2_4 X3_4 hB4 b5
        have fX0_0 := X0_5.c0
        have fX0_1 := X0_5.c1
        have fX1_0 := X1_5.c0
        have fX1_1 := X1_5.c1
        have fX2_0 := X2_5.c0
        have fX2_1 := X2_5.c1
        have fX3_0 := X3_5.c0
        have fX3_1 := X3_5.c1
        go_wp2_with fail
        refine (aw.out _).mono ?_
        rintro e v6 ⟨rfl, b6⟩
        clear fX0_0 fX0_1 fX1_0 fX1_1 fX2_0 fX2_1 fX3_0 fX3_1
        have X0_6 := X0_5.bl b6
        have X1_6 := X1_5.bl b6
        have X2_6 := X2_5.bl b6
        have X3_6 := X3_5.bl b6
        have hB6 := Bl.trans hB5 b6
        clear X0_5 X1_5 X2_5 X3_5 hB5 b6
        have fX0_0 := X0_6.c0
        have fX0_1 := X0_6.c1
        have fX1_0 := X1_6.c0
        have fX1_1 := X1_6.c1
        have fX2_0 := X2_6.c0
        have fX2_1 := X2_6.c1
        have fX3_0 := X3_6.c0
        have fX3_1 := X3_6.c1
        go_wp2_with fail
        go_ret
        exact ⟨rfl, hB6⟩

set_option maxRecDepth 100000 in
theorem lifted (os : Os) (started : os.Started) (H : Type) (enc : TypeId × Value → H) :
    ReturnsInHanded {} Try.checked os 5 .any (Rows.geomOrderSpec.pre6 enc Try.prog Try.f5 Rows.geomOrderRow.domain false) (Rows.geomOrderSpec.post enc Try.prog Try.f5 false true false false) := by
  refine returnsInHanded_of_change (C := Try.checked) own started (by kernel_rfl) Try.func5
    (ChangeSpec.witness6 (enc := enc) (C := Try.checked) false ⟨#[], #[.agg #[.int .i64 0, .int .i64 0], .agg #[.int .i64 0, .int .i64 0], .agg #[.int .i64 0, .int .i64 0], .agg #[.int .i64 0, .int .i64 0]], []⟩ 8 (by kernel_rfl) (by kernel_rfl) (by kernel_rfl) (by kernel_rfl)) ?_
  intro W base args ds gs before hval0 hW _ _
  have hval : ∀ (j : Nat) t v, Try.f5.params[j]? = some t → args[j]? = some v → Value.okWide Try.prog W .any base t v := hval0
  have hW' := hW
  obtain ⟨p, q, hA0, hV, rfl, hfz, hnd⟩ := hW
  have hA : DataW.TrodAll enc Try.prog W 0 (fun _ => true) true Try.f5.params.toList args.toList ds p := hA0
  rw [Try.params5] at hA hval
  obtain ⟨v0, vs0, d0, ds0, p0, q0, hargs, rfl, rfl, h0, r0⟩ := trodAll_cons hA
  obtain ⟨v1, vs1, d1, ds1, p1, q1, rfl, rfl, rfl, h1, r1⟩ := trodAll_cons r0
  obtain ⟨v2, vs2, d2, ds2, p2, q2, rfl, rfl, rfl, h2, r2⟩ := trodAll_cons r1
  obtain ⟨v3, vs3, d3, ds3, p3, q3, rfl, rfl, rfl, h3, r3⟩ := trodAll_cons r2
  obtain ⟨rfl, rfl, rfl⟩ := trodAll_nil r3
  obtain rfl : args = #[v0, v1, v2, v3] := by cases args; simp_all
  obtain ⟨rfl, rfl⟩ := trodVars_none hV
  have k0 := h0
  obtain ⟨a0_0, a0_1, rfl, rfl, rfl, w0_0, w0_1⟩ := open_st2 Try.underlying23 (by kernel_rfl) ⟨rfl, rfl⟩ ⟨rfl, rfl⟩ (hval 0 23 v0 rfl rfl) h0
  have k1 := h1
  obtain ⟨a1_0, a1_1, rfl, rfl, rfl, w1_0, w1_1⟩ := open_st2 Try.underlying23 (by kernel_rfl) ⟨rfl, rfl⟩ ⟨rfl, rfl⟩ (hval 1 23 v1 rfl rfl) h1
  have k2 := h2
  obtain ⟨a2_0, a2_1, rfl, rfl, rfl, w2_0, w2_1⟩ := open_st2 Try.underlying23 (by kernel_rfl) ⟨rfl, rfl⟩ ⟨rfl, rfl⟩ (hval 2 23 v2 rfl rfl) h2
  have k3 := h3
  obtain ⟨a3_0, a3_1, rfl, rfl, rfl, w3_0, w3_1⟩ := open_st2 Try.underlying23 (by kernel_rfl) ⟨rfl, rfl⟩ ⟨rfl, rfl⟩ (hval 3 23 v3 rfl rfl) h3
  clear hA0 hval0
  refine (walk a0_0 a0_1 a1_0 a1_1 a2_0 a2_1 a3_0 a3_1 W w0_0 w0_1 w1_0 w1_1 w2_0 w2_1 w3_0 w3_1).mono fun e W' ⟨he, bel⟩ => ?_
  subst he
  exact ⟨_, rfl, _, _, _, [], _, [], hW', trodAll_mk1 (shut_bool Try.underlying4 _), (trodAll_cons_mk (Below.trod laidOut (by kernel_rfl) (of_decide_eq_true (by kernel_rfl)) k0 bel (fun x hx => by cases hx)) (trodAll_cons_mk (Below.trod laidOut (by kernel_rfl) (of_decide_eq_true (by kernel_rfl)) k1 bel (fun x hx => by cases hx)) (trodAll_cons_mk (Below.trod laidOut (by kernel_rfl) (of_decide_eq_true (by kernel_rfl)) k2 bel (fun x hx => by cases hx)) (trodAll_cons_mk (Below.trod laidOut (by kernel_rfl) (of_decide_eq_true (by kernel_rfl)) k3 bel (fun x hx => by cases hx)) trodAll_mk0)))), rfl, Below.frame bel _, fun h => by cases h⟩

theorem holds : Rows.GeomOrderSaid :=
  OpenClaim.holds_of_wide 5 Try.f5 rfl rfl rfl rfl rfl rfl rfl ⟨rfl, rfl, rfl, rfl, rfl⟩ rfl rfl rfl rfl rfl (by kernel_rfl) Try.func5 (by kernel_rfl)
    (of_decide_eq_true (by kernel_rfl)) (by unfold Func.isWrapper; first | (rw [if_pos (by decide +kernel)]; kernel_rfl) | (rw [if_neg (by decide +kernel)]; exact ⟨rfl, rfl⟩))
    (fun os started H enc _ => lifted os started H enc)
end Go.Proofs.Ytjdkgndecnhokaa.GeomOrder
