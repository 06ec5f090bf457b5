/- GeomBoxes returns true for all boxes and points: In and Overlap answer as the reference does, Overlap is symmetric. No condition. -/
import Derived.Test.YtjdkgndecnhokaaEAwake
import Derived.Test.YtjdkgndecnhokaaWArgs
import Derived.ChangeOld
namespace Go.Proofs.Ytjdkgndecnhokaa.GeomBoxes
open Go.ChangeShapes Go.WideShapes Go.ChangeAt Go.RowKit
open Go.ChangeMaps (open_string shut_string)
open Go.Proofs.Ytjdkgndecnhokaa.Wire
open Go.Proofs.Ytjdkgndecnhokaa.Geom
set_option linter.unusedVariables false
set_option linter.unusedSimpArgs false

set_option maxRecDepth 100000 in
set_option maxHeartbeats 2000000 in
theorem walk (a0_0 a0_1 a0_2 a0_3 : Int) (a1_0 a1_1 a1_2 a1_3 : Int) (a2_0 a2_1 : Int) (w : World) (w0_0 : (Lit.int .i64 a0_0).wf = true) (w0_1 : (Lit.int .i64 a0_1).wf = true) (w0_2 : (Lit.int .i64 a0_2).wf = true) (w0_3 : (Lit.int .i64 a0_3).wf = true) (w1_0 : (Lit.int .i64 a1_0).wf = true) (w1_1 : (Lit.int .i64 a1_1).wf = true) (w1_2 : (Lit.int .i64 a1_2).wf = true) (w1_3 : (Lit.int .i64 a1_3).wf = true) (w2_0 : (Lit.int .i64 a2_0).wf = true) (w2_1 : (Lit.int .i64 a2_1).wf = true) :
    Calls Try.prog 7 #[.agg #[.int .i64 a0_0, .int .i64 a0_1, .int .i64 a0_2, .int .i64 a0_3], .agg #[.int .i64 a1_0, .int .i64 a1_1, .int .i64 a1_2, .int .i64 a1_3], .agg #[.int .i64 a2_0, .int .i64 a2_1]] w fun e w' => e = .returned (.bool true) ∧ Bl w w' := by
  have ci := hid (fun w' => In_any a0_0 a0_1 a0_2 a0_3 a2_0 a2_1 w')
  have di := hid (fun w' => RIn_any a0_0 a0_1 a0_2 a0_3 a2_0 a2_1 w')
  generalize inn a0_0 a0_1 a0_2 a0_3 a2_0 a2_1 = I at *
  have co' := fun w' => Overlap_any a0_0 a0_1 a0_2 a0_3 a1_0 a1_1 a1_2 a1_3 w'
  have do' := fun w' => ROverlap_any a0_0 a0_1 a0_2 a0_3 a1_0 a1_1 a1_2 a1_3 w'
  have cs' := fun w' => Overlap_any a1_0 a1_1 a1_2 a1_3 a0_0 a0_1 a0_2 a0_3 w'
  have cx' := fun w' => Overlap_any a0_0 a0_1 a0_2 a0_3 a0_0 a0_1 a0_2 a0_3 w'
  rw [ovl_comm a0_0 a0_1 a0_2 a0_3 a1_0 a1_1 a1_2 a1_3] at cs'
  have aw := hid (fun w' => awake_any w')
  cases hE : ovl a0_0 a0_1 a0_2 a0_3 a1_0 a1_1 a1_2 a1_3
  · rw [hE] at co' do' cs'
    have co := hid co'
    have d_ := hid do'
    have cs := hid cs'
    have cx := hid cx'
    clear co' do' cs' cx' hE
    have mixed : Try.prog.follows .mixedOrders = true := by kernel_rfl
    go_enter Try.func7, Try.ntmps7
    go_wp2_with fail
    obtain ⟨v0, hv0⟩ : ∃ v0, v0 = (((w.alloc (.cells #[.int .i64 a0_0, .int .i64 a0_1, .int .i64 a0_2, .int .i64 a0_3] 35)).alloc (.cells #[.int .i64 a1_0, .int .i64 a1_1, .int .i64 a1_2, .int .i64 a1_3] 35)).alloc (.cells #[.int .i64 a2_0, .int .i64 a2_1] 23)) := ⟨_, rfl⟩
    have hB0 : Bl w v0 := by rw [hv0]; exact (((Bl.refl w).alloc _).alloc _).alloc _
    have X0_0 : Bk v0 (w.heap.size) #[.int .i64 a0_0, .int .i64 a0_1, .int .i64 a0_2, .int .i64 a0_3] 35 := by rw [hv0]; exact ((Bk.new _ _ _ (by simp)).al _).al _
    have X1_0 : Bk v0 (w.heap.size + 1) #[.int .i64 a1_0, .int .i64 a1_1, .int .i64 a1_2, .int .i64 a1_3] 35 := by rw [hv0]; exact (Bk.new _ _ _ (by simp)).al _
    have X2_0 : BX v0 (w.heap.size + 1 + 1) a2_0 a2_1 := by rw [hv0]; exact BX.new (by simp)
    have HZ := hid (show v0.heap.size = w.heap.size + 1 + 1 + 1 by rw [hv0]; simp)
    rw [← hv0]
    clear hv0
    have fX0_0 : v0.cell? ⟨w.heap.size, 0, none⟩ = some (.int .i64 a0_0) := by rw [cell_of_row _ _ _ _ _ _ X0_0]; rfl
    have fX0_1 : v0.cell? ⟨w.heap.size, 1, none⟩ = some (.int .i64 a0_1) := by rw [cell_of_row _ _ _ _ _ _ X0_0]; rfl
    have fX0_2 : v0.cell? ⟨w.heap.size, 2, none⟩ = some (.int .i64 a0_2) := by rw [cell_of_row _ _ _ _ _ _ X0_0]; rfl
    have fX0_3 : v0.cell? ⟨w.heap.size, 3, none⟩ = some (.int .i64 a0_3) := by rw [cell_of_row _ _ _ _ _ _ X0_0]; rfl
    have fX1_0 : v0.cell? ⟨w.heap.size + 1, 0, none⟩ = some (.int .i64 a1_0) := by rw [cell_of_row _ _ _ _ _ _ X1_0]; rfl
    have fX1_1 : v0.cell? ⟨w.heap.size + 1, 1, none⟩ = some (.int .i64 a1_1) := by rw [cell_of_row _ _ _ _ _ _ X1_0]; rfl
    have fX1_2 : v0.cell? ⟨w.heap.size + 1, 2, none⟩ = some (.int .i64 a1_2) := by rw [cell_of_row _ _ _ _ _ _ X1_0]; rfl
    have fX1_3 : v0.cell? ⟨w.heap.size + 1, 3, none⟩ = some (.int .i64 a1_3) := by rw [cell_of_row _ _ _ _ _ _ X1_0]; rfl
    have fX2_0 := X2_0.c0
    have fX2_1 := X2_0.c1
    go_wp2_with fail
    refine (co.out _).mono ?_
    rintro e v1 ⟨rfl, b1⟩
    clear fX0_0 fX0_1 fX0_2 fX0_3 fX1_0 fX1_1 fX1_2 fX1_3 fX2_0 fX2_1
    have X0_1 := X0_0.bl b1
    have X1_1 := X1_0.bl b1
    have X2_1 := X2_0.bl b1
    have hB1 := Bl.trans hB0 b1
    clear X0_0 X1_0 X2_0 hB0 b1
    have fX0_0 : v1.cell? ⟨w.heap.size, 0, none⟩ = some (.int .i64 a0_0) := by rw [cell_of_row _ _ _ _ _ _ X0_1]; rfl
    have fX0_1 : v1.cell? ⟨w.heap.size, 1, none⟩ = some (.int .i64 a0_1) := by rw [cell_of_row _ _ _ _ _ _ X0_1]; rfl
    have fX0_2 : v1.cell? ⟨w.heap.size, 2, none⟩ = some (.int .i64 a0_2) := by rw [cell_of_row _ _ _ _ _ _ X0_1]; rfl
    have fX0_3 : v1.cell? ⟨w.heap.size, 3, none⟩ = some (.int .i64 a0_3) := by rw [cell_of_row _ _ _ _ _ _ X0_1]; rfl
    have fX1_0 : v1.cell? ⟨w.heap.size + 1, 0, none⟩ = some (.int .i64 a1_0) := by rw [cell_of_row _ _ _ _ _ _ X1_1]; rfl
    have fX1_1 : v1.cell? ⟨w.heap.size + 1, 1, none⟩ = some (.int .i64 a1_1) := by rw [cell_of_row _ _ _ _ _ _ X1_1]; rfl
    have fX1_2 : v1.cell? ⟨w.heap.size + 1, 2, none⟩ = some (.int .i64 a1_2) := by rw [cell_of_row _ _ _ _ _ _ X1_1]; rfl
    have fX1_3 : v1.cell? ⟨w.heap.size + 1, 3, none⟩ = some (.int .i64 a1_3) := by rw [cell_of_row _ _ _ _ _ _ X1_1]; rfl
    have fX2_0 := X2_1.c0
    have fX2_1 := X2_1.c1
    go_wp2_with fail
    clear fX0_0 fX0_1 fX0_2 fX0_3 fX1_0 fX1_1 fX1_2 fX1_3 fX2_0 fX2_1
    have kX0_0 := GB.cell (a := ⟨w.heap.size, 0, none⟩) (v := .int .i64 a0_0) X0_1.lt (by rw [cell_of_row _ _ _ _ _ _ X0_1]; rfl)
    have kX0_1 := GB.cell (a := ⟨w.heap.size, 1, none⟩) (v := .int .i64 a0_1) X0_1.lt (by rw [cell_of_row _ _ _ _ _ _ X0_1]; rfl)
    have kX0_2 := GB.cell (a := ⟨w.heap.size, 2, none⟩) (v := .int .i64 a0_2) X0_1.lt (by rw [cell_of_row _ _ _ _ _ _ X0_1]; rfl)
    have kX0_3 := GB.cell (a := ⟨w.heap.size, 3, none⟩) (v := .int .i64 a0_3) X0_1.lt (by rw [cell_of_row _ _ _ _ _ _ X0_1]; rfl)
    have kX1_0 := GB.cell (a := ⟨w.heap.size + 1, 0, none⟩) (v := .int .i64 a1_0) X1_1.lt (by rw [cell_of_row _ _ _ _ _ _ X1_1]; rfl)
    have kX1_1 := GB.cell (a := ⟨w.heap.size + 1, 1, none⟩) (v := .int .i64 a1_1) X1_1.lt (by rw [cell_of_row _ _ _ _ _ _ X1_1]; rfl)
    have kX1_2 := GB.cell (a := ⟨w.heap.size + 1, 2, none⟩) (v := .int .i64 a1_2) X1_1.lt (by rw [cell_of_row _ _ _ _ _ _ X1_1]; rfl)
    have kX1_3 := GB.cell (a := ⟨w.heap.size + 1, 3, none⟩) (v := .int .i64 a1_3) X1_1.lt (by rw [cell_of_row _ _ _ _ _ _ X1_1]; rfl)
    have kX2_0 := GB.cell X2_1.lt X2_1.c0
    have kX2_1 := GB.cell X2_1.lt X2_1.c1
    refine wp_region_gb mixed (by kernel_rfl) ?_
    try simp only [List.append]
    repeat
      with_reducible refine wpQuiet_step (fun K hK => ?_)
      go_simp
      first
        | (with_reducible refine hK _ ?_; clear hK K)
        | (rw [if_neg]; rotate_left; · (intro h; cases h); with_reducible refine hK _ ?_; clear hK K)
        | (apply Exists.intro; with_reducible refine ⟨fun _ => ?_, hK _ ?_⟩; (first | (go_at_call 27; with_reducible refine gb_of (ci.out _)) | (go_at_call 28; with_reducible refine gb_of (di.out _)) | (go_at_call 29; with_reducible refine gb_of (d_.out _)) | (go_at_call 26; with_reducible refine gb_of (cs.out _)) | (go_at_call 26; with_reducible refine gb_of (cx.out _)) | (go_at_call 17; with_reducible refine gb_of (aw.out _))); clear hK K)
    with_reducible refine wpQuiet_nil ?_
    intro w' hw'
    obtain ⟨⟨v2, b2⟩, hw''⟩ := hw'
    have hw3 : v2 = w' := hw''.symm
    subst hw3
    clear hw''
    clear kX0_0 kX0_1 kX0_2 kX0_3 kX1_0 kX1_1 kX1_2 kX1_3 kX2_0 kX2_1
    have X0_2 := X0_1.bl b2
    have X1_2 := X1_1.bl b2
    have X2_2 := X2_1.bl b2
    have hB2 := Bl.trans hB1 b2
    clear X0_1 X1_1 X2_1 hB1 b2
    have fX0_0 : v2.cell? ⟨w.heap.size, 0, none⟩ = some (.int .i64 a0_0) := by rw [cell_of_row _ _ _ _ _ _ X0_2]; rfl
    have fX0_1 : v2.cell? ⟨w.heap.size, 1, none⟩ = some (.int .i64 a0_1) := by rw [cell_of_row _ _ _ _ _ _ X0_2]; rfl
    have fX0_2 : v2.cell? ⟨w.heap.size, 2, none⟩ = some (.int .i64 a0_2) := by rw [cell_of_row _ _ _ _ _ _ X0_2]; rfl
    have fX0_3 : v2.cell? ⟨w.heap.size, 3, none⟩ = some (.int .i64 a0_3) := by rw [cell_of_row _ _ _ _ _ _ X0_2]; rfl
    have fX1_0 : v2.cell? ⟨w.heap.size + 1, 0, none⟩ = some (.int .i64 a1_0) := by rw [cell_of_row _ _ _ _ _ _ X1_2]; rfl
    have fX1_1 : v2.cell? ⟨w.heap.size + 1, 1, none⟩ = some (.int .i64 a1_1) := by rw [cell_of_row _ _ _ _ _ _ X1_2]; rfl
    have fX1_2 : v2.cell? ⟨w.heap.size + 1, 2, none⟩ = some (.int .i64 a1_2) := by rw [cell_of_row _ _ _ _ _ _ X1_2]; rfl
    have fX1_3 : v2.cell? ⟨w.heap.size + 1, 3, none⟩ = some (.int .i64 a1_3) := by rw [cell_of_row _ _ _ _ _ _ X1_2]; rfl
    have fX2_0 := X2_2.c0
    have fX2_1 := X2_2.c1
    go_wp2_with fail
    go_ret
    exact ⟨rfl, hB2⟩
  · rw [hE] at co' do' cs'
    rw [ovl_self hE] at cx'
    have co := hid co'
    have d_ := hid do'
    have cs := hid cs'
    have cx := hid cx'
    clear co' do' cs' cx' hE
    have mixed : Try.prog.follows .mixedOrders = true := by kernel_rfl
    go_enter Try.func7, Try.ntmps7
    go_wp2_with fail
    obtain ⟨v0, hv0⟩ : ∃ v0, v0 = (((w.alloc (.cells #[.int .i64 a0_0, .int .i64 a0_1, .int .i64 a0_2, .int .i64 a0_3] 35)).alloc (.cells #[.int .i64 a1_0, .int .i64 a1_1, .int .i64 a1_2, .int .i64 a1_3] 35)).alloc (.cells #[.int .i64 a2_0, .int .i64 a2_1] 23)) := ⟨_, rfl⟩
    have hB0 : Bl w v0 := by rw [hv0]; exact (((Bl.refl w).alloc _).alloc _).alloc _
    have X0_0 : Bk v0 (w.heap.size) #[.int .i64 a0_0, .int .i64 a0_1, .int .i64 a0_2, .int .i64 a0_3] 35 := by rw [hv0]; exact ((Bk.new _ _ _ (by simp)).al _).al _
    have X1_0 : Bk v0 (w.heap.size + 1) #[.int .i64 a1_0, .int .i64 a1_1, .int .i64 a1_2, .int .i64 a1_3] 35 := by rw [hv0]; exact (Bk.new _ _ _ (by simp)).al _
    have X2_0 : BX v0 (w.heap.size + 1 + 1) a2_0 a2_1 := by rw [hv0]; exact BX.new (by simp)
    have HZ := hid (show v0.heap.size = w.heap.size + 1 + 1 + 1 by rw [hv0]; simp)
    rw [← hv0]
    clear hv0
    have fX0_0 : v0.cell? ⟨w.heap.size, 0, none⟩ = some (.int .i64 a0_0) := by rw [cell_of_row _ _ _ _ _ _ X0_0]; rfl
    have fX0_1 : v0.cell? ⟨w.heap.size, 1, none⟩ = some (.int .i64 a0_1) := by rw [cell_of_row _ _ _ _ _ _ X0_0]; rfl
    have fX0_2 : v0.cell? ⟨w.heap.size, 2, none⟩ = some (.int .i64 a0_2) := by rw [cell_of_row _ _ _ _ _ _ X0_0]; rfl
    have fX0_3 : v0.cell? ⟨w.heap.size, 3, none⟩ = some (.int .i64 a0_3) := by rw [cell_of_row _ _ _ _ _ _ X0_0]; rfl
    have fX1_0 : v0.cell? ⟨w.heap.size + 1, 0, none⟩ = some (.int .i64 a1_0) := by rw [cell_of_row _ _ _ _ _ _ X1_0]; rfl
    have fX1_1 : v0.cell? ⟨w.heap.size + 1, 1, none⟩ = some (.int .i64 a1_1) := by rw [cell_of_row _ _ _ _ _ _ X1_0]; rfl
    have fX1_2 : v0.cell? ⟨w.heap.size + 1, 2, none⟩ = some (.int .i64 a1_2) := by rw [cell_of_row _ _ _ _ _ _ X1_0]; rfl
    have fX1_3 : v0.cell? ⟨w.heap.size + 1, 3, none⟩ = some (.int .i64 a1_3) := by rw [cell_of_row _ _ _ _ _ _ X1_0]; rfl
    have fX2_0 := X2_0.c0
    have fX2_1 := X2_0.c1
    go_wp2_with fail
    refine (co.out _).mono ?_
    rintro e v1 ⟨rfl, b1⟩
    clear fX0_0 fX0_1 fX0_2 fX0_3 fX1_0 fX1_1 fX1_2 fX1_3 fX2_0 fX2_1
    have X0_1 := X0_0.bl b1
    have X1_1 := X1_0.bl b1
    have X2_1 := X2_0.bl b1
    have hB1 := Bl.trans hB0 b1
    clear X0_0 X1_0 X2_0 hB0 b1
    have fX0_0 : v1.cell? ⟨w.heap.size, 0, none⟩ = some (.int .i64 a0_0) := by rw [cell_of_row _ _ _ _ _ _ X0_1]; rfl
    have fX0_1 : v1.cell? ⟨w.heap.size, 1, none⟩ = some (.int .i64 a0_1) := by rw [cell_of_row _ _ _ _ _ _ X0_1]; rfl
    have fX0_2 : v1.cell? ⟨w.heap.size, 2, none⟩ = some (.int .i64 a0_2) := by rw [cell_of_row _ _ _ _ _ _ X0_1]; rfl
    have fX0_3 : v1.cell? ⟨w.heap.size, 3, none⟩ = some (.int .i64 a0_3) := by rw [cell_of_row _ _ _ _ _ _ X0_1]; rfl
    have fX1_0 : v1.cell? ⟨w.heap.size + 1, 0, none⟩ = some (.int .i64 a1_0) := by rw [cell_of_row _ _ _ _ _ _ X1_1]; rfl
    have fX1_1 : v1.cell? ⟨w.heap.size + 1, 1, none⟩ = some (.int .i64 a1_1) := by rw [cell_of_row _ _ _ _ _ _ X1_1]; rfl
    have fX1_2 : v1.cell? ⟨w.heap.size + 1, 2, none⟩ = some (.int .i64 a1_2) := by rw [cell_of_row _ _ _ _ _ _ X1_1]; rfl
    have fX1_3 : v1.cell? ⟨w.heap.size + 1, 3, none⟩ = some (.int .i64 a1_3) := by rw [cell_of_row _ _ _ _ _ _ X1_1]; rfl
    have fX2_0 := X2_1.c0
    have fX2_1 := X2_1.c1
    go_wp2_with fail
    clear fX0_0 fX0_1 fX0_2 fX0_3 fX1_0 fX1_1 fX1_2 fX1_3 fX2_0 fX2_1
    have kX0_0 := GB.cell (a := ⟨w.heap.size, 0, none⟩) (v := .int .i64 a0_0) X0_1.lt (by rw [cell_of_row _ _ _ _ _ _ X0_1]; rfl)
    have kX0_1 := GB.cell (a := ⟨w.heap.size, 1, none⟩) (v := .int .i64 a0_1) X0_1.lt (by rw [cell_of_row _ _ _ _ _ _ X0_1]; rfl)
    have kX0_2 := GB.cell (a := ⟨w.heap.size, 2, none⟩) (v := .int .i64 a0_2) X0_1.lt (by rw [cell_of_row _ _ _ _ _ _ X0_1]; rfl)
    have kX0_3 := GB.cell (a := ⟨w.heap.size, 3, none⟩) (v := .int .i64 a0_3) X0_1.lt (by rw [cell_of_row _ _ _ _ _ _ X0_1]; rfl)
    have kX1_0 := GB.cell (a := ⟨w.heap.size + 1, 0, none⟩) (v := .int .i64 a1_0) X1_1.lt (by rw [cell_of_row _ _ _ _ _ _ X1_1]; rfl)
    have kX1_1 := GB.cell (a := ⟨w.heap.size + 1, 1, none⟩) (v := .int .i64 a1_1) X1_1.lt (by rw [cell_of_row _ _ _ _ _ _ X1_1]; rfl)
    have kX1_2 := GB.cell (a := ⟨w.heap.size + 1, 2, none⟩) (v := .int .i64 a1_2) X1_1.lt (by rw [cell_of_row _ _ _ _ _ _ X1_1]; rfl)
    have kX1_3 := GB.cell (a := ⟨w.heap.size + 1, 3, none⟩) (v := .int .i64 a1_3) X1_1.lt (by rw [cell_of_row _ _ _ _ _ _ X1_1]; rfl)
    have kX2_0 := GB.cell X2_1.lt X2_1.c0
    have kX2_1 := GB.cell X2_1.lt X2_1.c1
    refine wp_region_gb mixed (by kernel_rfl) ?_
    try simp only [List.append]
    repeat
      with_reducible refine wpQuiet_step (fun K hK => ?_)
      go_simp
      first
        | (with_reducible refine hK _ ?_; clear hK K)
        | (rw [if_neg]; rotate_left; · (intro h; cases h); with_reducible refine hK _ ?_; clear hK K)
        | (apply Exists.intro; with_reducible refine ⟨fun _ => ?_, hK _ ?_⟩; (first | (go_at_call 27; with_reducible refine gb_of (ci.out _)) | (go_at_call 28; with_reducible refine gb_of (di.out _)) | (go_at_call 29; with_reducible refine gb_of (d_.out _)) | (go_at_call 26; with_reducible refine gb_of (cs.out _)) | (go_at_call 26; with_reducible refine gb_of (cx.out _)) | (go_at_call 17; with_reducible refine gb_of (aw.out _))); clear hK K)
    with_reducible refine wpQuiet_nil ?_
    intro w' hw'
    obtain ⟨⟨v2, b2⟩, hw''⟩ := hw'
    have hw3 : v2 = w' := hw''.symm
    subst hw3
    clear hw''
    clear kX0_0 kX0_1 kX0_2 kX0_3 kX1_0 kX1_1 kX1_2 kX1_3 kX2_0 kX2_1
    have X0_2 := X0_1.bl b2
    have X1_2 := X1_1.bl b2
    have X2_2 := X2_1.bl b2
    have hB2 := Bl.trans hB1 b2
    clear X0_1 X1_1 X2_1 hB1 b2
    have fX0_0 : v2.cell? ⟨w.heap.size, 0, none⟩ = some (.int .i64 a0_0) := by rw [cell_of_row _ _ _ _ _ _ X0_2]; rfl
    have fX0_1 : v2.cell? ⟨w.heap.size, 1, none⟩ = some (.int .i64 a0_1) := by rw [cell_of_row _ _ _ _ _ _ X0_2]; rfl
    have fX0_2 : v2.cell? ⟨w.heap.size, 2, none⟩ = some (.int .i64 a0_2) := by rw [cell_of_row _ _ _ _ _ _ X0_2]; rfl
    have fX0_3 : v2.cell? ⟨w.heap.size, 3, none⟩ = some (.int .i64 a0_3) := by rw [cell_of_row _ _ _ _ _ _ X0_2]; rfl
    have fX1_0 : v2.cell? ⟨w.heap.size + 1, 0, none⟩ = some (.int .i64 a1_0) := by rw [cell_of_row _ _ _ _ _ _ X1_2]; rfl
    have fX1_1 : v2.cell? ⟨w.heap.size + 1, 1, none⟩ = some (.int .i64 a1_1) := by rw [cell_of_row _ _ _ _ _ _ X1_2]; rfl
    have fX1_2 : v2.cell? ⟨w.heap.size + 1, 2, none⟩ = some (.int .i64 a1_2) := by rw [cell_of_row _ _ _ _ _ _ X1_2]; rfl
    have fX1_3 : v2.cell? ⟨w.heap.size + 1, 3, none⟩ = some (.int .i64 a1_3) := by rw [cell_of_row _ _ _ _ _ _ X1_2]; rfl
    have fX2_0 := X2_2.c0
    have fX2_1 := X2_2.c1
    go_wp2_with fail
    go_ret
    exact ⟨rfl, hB2⟩

set_option maxRecDepth 100000 in
theorem lifted (os : Os) (started : os.Started) (H : Type) (enc : TypeId × Value → H) :
    ReturnsInHanded {} Try.checked os 7 .any (Rows.geomBoxesSpec.pre6 enc Try.prog Try.f7 Rows.geomBoxesRow.domain false) (Rows.geomBoxesSpec.post enc Try.prog Try.f7 false true false false) := by
  refine returnsInHanded_of_change (C := Try.checked) own started (by kernel_rfl) Try.func7
    (ChangeSpec.witness6 (enc := enc) (C := Try.checked) false ⟨#[], #[.agg #[.int .i64 0, .int .i64 0, .int .i64 0, .int .i64 0], .agg #[.int .i64 0, .int .i64 0, .int .i64 0, .int .i64 0], .agg #[.int .i64 0, .int .i64 0]], []⟩ 8 (by kernel_rfl) (by kernel_rfl) (by kernel_rfl) (by kernel_rfl)) ?_
  intro W base args ds gs before hval0 hW _ _
  have hval : ∀ (j : Nat) t v, Try.f7.params[j]? = some t → args[j]? = some v → Value.okWide Try.prog W .any base t v := hval0
  have hW' := hW
  obtain ⟨p, q, hA0, hV, rfl, hfz, hnd⟩ := hW
  have hA : DataW.TrodAll enc Try.prog W 0 (fun _ => true) true Try.f7.params.toList args.toList ds p := hA0
  rw [Try.params7] at hA hval
  obtain ⟨v0, vs0, d0, ds0, p0, q0, hargs, rfl, rfl, h0, r0⟩ := trodAll_cons hA
  obtain ⟨v1, vs1, d1, ds1, p1, q1, rfl, rfl, rfl, h1, r1⟩ := trodAll_cons r0
  obtain ⟨v2, vs2, d2, ds2, p2, q2, rfl, rfl, rfl, h2, r2⟩ := trodAll_cons r1
  obtain ⟨rfl, rfl, rfl⟩ := trodAll_nil r2
  obtain rfl : args = #[v0, v1, v2] := by cases args; simp_all
  obtain ⟨rfl, rfl⟩ := trodVars_none hV
  have k0 := h0
  obtain ⟨a0_0, a0_1, a0_2, a0_3, rfl, rfl, rfl, w0_0, w0_1, w0_2, w0_3⟩ := open_st4 Try.underlying35 (by kernel_rfl) ⟨rfl, rfl⟩ ⟨rfl, rfl⟩ ⟨rfl, rfl⟩ ⟨rfl, rfl⟩ (hval 0 35 v0 rfl rfl) h0
  have k1 := h1
  obtain ⟨a1_0, a1_1, a1_2, a1_3, rfl, rfl, rfl, w1_0, w1_1, w1_2, w1_3⟩ := open_st4 Try.underlying35 (by kernel_rfl) ⟨rfl, rfl⟩ ⟨rfl, rfl⟩ ⟨rfl, rfl⟩ ⟨rfl, rfl⟩ (hval 1 35 v1 rfl rfl) h1
  have k2 := h2
  obtain ⟨a2_0, a2_1, rfl, rfl, rfl, w2_0, w2_1⟩ := open_st2 Try.underlying23 (by kernel_rfl) ⟨rfl, rfl⟩ ⟨rfl, rfl⟩ (hval 2 23 v2 rfl rfl) h2
  clear hA0 hval0
  refine (walk a0_0 a0_1 a0_2 a0_3 a1_0 a1_1 a1_2 a1_3 a2_0 a2_1 W w0_0 w0_1 w0_2 w0_3 w1_0 w1_1 w1_2 w1_3 w2_0 w2_1).mono fun e W' ⟨he, bel⟩ => ?_
  subst he
  exact ⟨_, rfl, _, _, _, [], _, [], hW', trodAll_mk1 (shut_bool Try.underlying4 _), (trodAll_cons_mk (Below.trod laidOut (by kernel_rfl) (of_decide_eq_true (by kernel_rfl)) k0 bel (fun x hx => by cases hx)) (trodAll_cons_mk (Below.trod laidOut (by kernel_rfl) (of_decide_eq_true (by kernel_rfl)) k1 bel (fun x hx => by cases hx)) (trodAll_cons_mk (Below.trod laidOut (by kernel_rfl) (of_decide_eq_true (by kernel_rfl)) k2 bel (fun x hx => by cases hx)) trodAll_mk0))), rfl, Below.frame bel _, fun h => by cases h⟩

theorem holds : Rows.GeomBoxesSaid :=
  OpenClaim.holds_of_wide 7 Try.f7 rfl rfl rfl rfl rfl rfl rfl ⟨rfl, rfl, rfl, rfl, rfl⟩ rfl rfl rfl rfl rfl (by kernel_rfl) Try.func7 (by kernel_rfl)
    (of_decide_eq_true (by kernel_rfl)) (by unfold Func.isWrapper; first | (rw [if_pos (by decide +kernel)]; kernel_rfl) | (rw [if_neg (by decide +kernel)]; exact ⟨rfl, rfl⟩))
    (fun os started H enc _ => lifted os started H enc)
end Go.Proofs.Ytjdkgndecnhokaa.GeomBoxes
