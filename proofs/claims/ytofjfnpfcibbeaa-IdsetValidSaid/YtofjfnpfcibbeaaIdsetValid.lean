/- IdsetValid returns true for every list and integer: Valid and Has answer as the reference does. No condition beyond the form's own reach. -/
import Derived.Test.YtofjfnpfcibbeaaIAwake
import Derived.Test.YtofjfnpfcibbeaaIOks
import Derived.Test.YtofjfnpfcibbeaaWArgs
namespace Go.Proofs.Ytofjfnpfcibbeaa.IdsetValid
open Go.ChangeShapes Go.WideShapes Go.ChangeAt Go.RowKit
open Go.ChangeMaps (open_string shut_string)
open Go.Proofs.Ytofjfnpfcibbeaa.Wire
open Go.Proofs.Ytofjfnpfcibbeaa.Idset
set_option linter.unusedVariables false
set_option linter.unusedSimpArgs false

set_option maxRecDepth 100000 in
set_option maxHeartbeats 4000000 in
theorem walk (a0 : Option Addr) (len0 cap0 : Nat) (z0 : List Int) (a1 : Int) (w : World) (s0 : Sh w w.heap.size .i64 a0 len0 z0) (l0 : len0 ≤ cap0) (w0 : ∀ n ∈ z0, (Lit.int .i64 n).wf = true) (b0 : cap0 * 8 ≤ 140737488351232) (w1 : (Lit.int .i64 a1).wf = true) :
    Calls Try.prog 3 #[.slice a0 len0 cap0, .int .i64 a1] w fun e w' => e = .returned (.bool true) ∧ Bl w w' := by
  have O0 : oks z0 := fun x hx => wf_i64 (w0 x hx)
  have e0 := s0.len
  have N1 := wf_i64 w1
  by_cases few : len0 ≤ 100
  · have f0 := few
    have g0 : z0.length ≤ 100 := by omega
    have H0 := hid e0
    clear e0 w0
    go_enter Try.func3, Try.ntmps3
    go_wp2_with fail
    refine (few_yes _ _ _ _ _ _ _ _ _ _ (by omega) (by omega) (by omega)).mono ?_
    rintro e w' ⟨rfl, rfl⟩
    go_wp2_with fail
    refine (awake_any _).mono ?_
    rintro e v1 ⟨rfl, b1⟩
    have B1 := Bl.trans (Bl.refl _) b1
    clear b1
    go_wp2_with fail
    refine (Valid_any _ _ _ _ _ (s0.bl B1) l0 O0 (by omega)).mono ?_
    rintro e v2 ⟨rfl, b2⟩
    have B2 := Bl.trans B1 b2
    clear b2  B1
    go_wp2_with fail
    refine (RValid_any _ _ _ _ _ _ (s0.bl B2) (by omega)).mono ?_
    rintro e v3 ⟨rfl, b3⟩
    have B3 := Bl.q B2 b3
    clear b3  B2
    go_wp2_with fail
    refine (Has_any _ _ _ _ _ _ (s0.bl B3) l0 O0 N1.1 N1.2 (by omega)).mono ?_
    rintro e v4 ⟨rfl, b4⟩
    have B4 := Bl.trans B3 b4
    clear b4  B3
    go_wp2_with fail
    refine (RHas_any _ _ _ _ _ _ _ (s0.bl B4) (by omega)).mono ?_
    rintro e w' ⟨rfl, rfl⟩
    go_wp2_with fail
    go_ret
    exact ⟨rfl, B4⟩
  · clear e0 O0
    go_enter Try.func3, Try.ntmps3
    go_wp2_with fail
    refine (few_no _ _ _ _ _ _ _ _ _ _ (by omega)).mono ?_
    rintro e w' ⟨rfl, rfl⟩
    go_wp2_with fail
    refine (awake_any _).mono ?_
    rintro e v1 ⟨rfl, b1⟩
    have B1 := Bl.trans (Bl.refl _) b1
    clear b1
    go_wp2_with fail
    go_ret
    exact ⟨rfl, B1⟩

set_option maxRecDepth 100000 in
theorem lifted (os : Os) (started : os.Started) (H : Type) (enc : TypeId × Value → H) :
    ReturnsInHanded {} Try.checked os 3 .any (Rows.idsetValidSpec.pre6 enc Try.prog Try.f3 Rows.idsetValidRow.domain false) (Rows.idsetValidSpec.post enc Try.prog Try.f3 false true false false) := by
  refine returnsInHanded_of_change_sized (C := Try.checked) own started (by kernel_rfl) Try.func3
    (ChangeSpec.witness6 (enc := enc) (C := Try.checked) false ⟨#[], #[.slice none 0 0, .int .i64 0], []⟩ 8 (by kernel_rfl) (by kernel_rfl) (by kernel_rfl) (by kernel_rfl)) ?_
  intro W base args ds gs before hval0 hW _ hsz0 _
  have hsz : (DataW.weightsEach Try.prog (Try.f3.params.toList ++ Rows.idsetValidSpec.plain.varTypes Try.prog) (ds ++ gs)).all (· ≤ reachBytes) = true := hsz0
  have hval : ∀ (j : Nat) t v, Try.f3.params[j]? = some t → args[j]? = some v → Value.okWide Try.prog W .any base t v := hval0
  have hW' := hW
  obtain ⟨p, q, hA0, hV, rfl, hfz, hnd⟩ := hW
  have hA : DataW.TrodAll enc Try.prog W 0 (fun _ => true) true Try.f3.params.toList args.toList ds p := hA0
  rw [Try.params3] at hA hval hsz
  obtain ⟨v0, vs0, d0, ds0, p0, q0, hargs, rfl, rfl, h0, r0⟩ := trodAll_cons hA
  obtain ⟨v1, vs1, d1, ds1, p1, q1, rfl, rfl, rfl, h1, r1⟩ := trodAll_cons r0
  obtain ⟨rfl, rfl, rfl⟩ := trodAll_nil r1
  obtain rfl : args = #[v0, v1] := by cases args; simp_all
  obtain ⟨rfl, rfl⟩ := trodVars_none hV
  have k0 := h0
  obtain ⟨a0, len0, cap0, z0, rfl, l0, m0, n0, s0, w0, f0, lt0⟩ := open_row Try.underlying22 Try.underlying3 (by kernel_rfl) (hval 0 22 v0 rfl rfl) h0
  have b0 := reach_row hsz (j := 0) (t := 22) (e := 3) 8 rfl rfl Try.underlying22 (by kernel_rfl) n0 l0 f0
  obtain ⟨a1, rfl, rfl, rfl, w1⟩ := open_int Try.underlying3 (hval 1 3 v1 rfl rfl) h1
  clear hA0 hval0
  refine (walk a0 len0 cap0 (z0.take len0) a1 W s0 l0 (fun n hn => w0 n (List.mem_of_mem_take hn)) b0 w1).mono fun e W' ⟨he, bel⟩ => ?_
  subst he
  exact ⟨_, rfl, _, _, _, [], _, [], hW', trodAll_mk1 (shut_bool Try.underlying4 _), (trodAll_cons_mk (Below.trod laidOut (by kernel_rfl) (of_decide_eq_true (by kernel_rfl)) k0 bel lt0) (trodAll_cons_mk (shut_int Try.underlying3 w1) trodAll_mk0)), rfl, Below.frame bel _, fun h => by cases h⟩

theorem holds : Rows.IdsetValidSaid :=
  OpenClaim.holds_of_wide 3 Try.f3 rfl rfl rfl rfl rfl rfl rfl ⟨rfl, rfl, rfl, rfl, rfl⟩ rfl rfl rfl rfl rfl (by kernel_rfl) Try.func3 (by kernel_rfl)
    (of_decide_eq_true (by kernel_rfl)) (by unfold Func.isWrapper; first | (rw [if_pos (by decide +kernel)]; kernel_rfl) | (rw [if_neg (by decide +kernel)]; exact ⟨rfl, rfl⟩))
    (fun os started H enc _ => lifted os started H enc)
end Go.Proofs.Ytofjfnpfcibbeaa.IdsetValid
