/- NumRoots returns true for every integer: Sqrt returns the greatest integer whose square is not too great. No condition. -/
import Derived.Test.YtjnlbgmfhomepaaRows
import Derived.ProofKit
import Derived.OpenShut
import Derived.ChangeOld
import Derived.Test.YtjnlbgmfhomepaaAwake
namespace Go.Proofs.Ytjnlbgmfhomepaa.NumRoots
open Go.ChangeShapes Go.WideShapes Go.ChangeAt Go.RowKit
open Go.Proofs.Ytjnlbgmfhomepaa.Num
set_option linter.unusedVariables false

theorem wf_okI {x : Int} (h : (Lit.int .i64 x).wf = true) : okI x := bounds_i64 h

theorem good (n r : Int) (h1 : n ≤ 9223372036854775807) (h0 : 0 ≤ n) (r0 : 0 ≤ r) (a : r * r ≤ n) (b : n < (r + 1) * (r + 1)) : r ≤ 3037000499 := by
  by_cases h : r ≤ 3037000499
  · exact h
  · have := Int.mul_le_mul (a := 3037000500) (b := 3037000500) (c := r) (d := r) (by omega) (by omega) (by omega) r0
    omega

set_option maxRecDepth 100000 in
set_option maxHeartbeats 2000000 in
theorem walk (n : Int) (hn : okI n) (w : World) :
    Calls Try.prog 7 #[.int .i64 n] w fun e w' => e = .returned (.bool true) ∧ Bl w w' := by
  have c1 := hid (fun w => sqrt_any n w hn)
  unfold okI at hn
  go_enter Try.func7, Try.ntmps7
  go_wp2_with fail
  refine (c1.out _).mono ?_
  rintro e w' ⟨r, rfl, ⟨r0, r1, r2⟩, n1, rfl⟩
  by_cases hz : n < 0
  · obtain rfl := r1 hz
    clear r1 r2
    go_wp2_with fail
    refine (awake_any _).mono ?_
    rintro e w1 ⟨rfl, hw⟩
    go_wp2_with fail
    go_ret
    exact ⟨rfl, Bl.trans (Bl.drewN (Bl.refl _) _) hw⟩
  · obtain ⟨s1, s2⟩ := r2 (by omega)
    have r3 := good n r hn.2 (by omega) r0 s1 s2
    have s0 := Int.mul_nonneg r0 r0
    clear r1 r2
    by_cases hm : r = 3037000499
    · have hm1 : (r == 3037000499) = true := by rw [beq_iff_eq]; exact hm
      clear hm s2
      go_wp2_with fail
      refine (awake_any _).mono ?_
      rintro e w1 ⟨rfl, hw⟩
      go_wp2_with fail
      go_ret
      exact ⟨rfl, Bl.trans (Bl.drewN (Bl.refl _) _) hw⟩
    · have hm1 : (r == 3037000499) = false := by rw [beq_eq_false_iff_ne]; exact hm
      have s3 := Int.mul_le_mul (a := r + 1) (b := r + 1) (c := 3037000499) (d := 3037000499) (by omega) (by omega) (by omega) (by omega)
      clear hm
      go_wp2_with fail
      refine (awake_any _).mono ?_
      rintro e w1 ⟨rfl, hw⟩
      go_wp2_with fail
      go_ret
      exact ⟨rfl, Bl.trans (Bl.drewN (Bl.refl _) _) hw⟩

theorem own : ownKnob Try.prog.godebug = none := by kernel_rfl

set_option maxRecDepth 100000 in
theorem lifted (os : Os) (started : os.Started) (H : Type) (enc : TypeId × Value → H) :
    ReturnsInHanded {} Try.checked os 7 .any (Rows.numRootsSpec.pre6 enc Try.prog Try.f7 Rows.numRootsRow.domain false) (Rows.numRootsSpec.post enc Try.prog Try.f7 false true false false) := by
  refine returnsInHanded_of_change (C := Try.checked) own started (by kernel_rfl) Try.func7
    (ChangeSpec.witness6 (enc := enc) (C := Try.checked) false ⟨#[], #[.int .i64 0], []⟩ 8 (by kernel_rfl) (by kernel_rfl) (by kernel_rfl) (by kernel_rfl)) ?_
  intro W base args ds gs before hval0 hW hcnd _
  have hval : ∀ (j : Nat) t v, Try.f7.params[j]? = some t → args[j]? = some v → Value.okWide Try.prog W .any base t v := hval0
  have hW' := hW
  obtain ⟨p, q, hA0, hV, rfl, hfz, hnd⟩ := hW
  have hA : DataW.TrodAll enc Try.prog W 0 (fun _ => true) true Try.f7.params.toList args.toList ds p := hA0
  rw [Try.params7] at hA hval
  obtain ⟨v0, vs0, d0, ds0, p0, q0, hargs, rfl, rfl, h0, r0⟩ := trodAll_cons hA
  obtain ⟨rfl, rfl, rfl⟩ := trodAll_nil r0
  obtain rfl : args = #[v0] := by cases args; simp_all
  obtain ⟨rfl, rfl⟩ := trodVars_none hV
  obtain ⟨a0, rfl, rfl, rfl, w0⟩ := open_int Try.underlying3 (hval 0 3 v0 rfl rfl) h0
  clear hA0 hval0
  refine (walk a0 (wf_okI w0) W).mono fun e W' ⟨he, hg⟩ => ?_
  subst he
  exact ⟨_, rfl, _, _, _, [], _, [], hW', trodAll_mk1 (shut_bool Try.underlying4 _), (trodAll_cons_mk (shut_int Try.underlying3 w0) trodAll_mk0), rfl, hg.frame _, fun h => by cases h⟩

theorem holds : Rows.NumRootsSaid :=
  OpenClaim.holds_of_wide 7 Try.f7 rfl rfl rfl rfl rfl rfl rfl ⟨rfl, rfl, rfl, rfl, rfl⟩ rfl rfl rfl rfl rfl (by kernel_rfl) Try.func7 (by kernel_rfl)
    (of_decide_eq_true (by kernel_rfl)) (by unfold Func.isWrapper; first | (rw [if_pos (by decide +kernel)]; kernel_rfl) | (rw [if_neg (by decide +kernel)]; exact ⟨rfl, rfl⟩))
    (fun os started H enc _ => lifted os started H enc)
end Go.Proofs.Ytjnlbgmfhomepaa.NumRoots
