/- SpanNormals returns true for every list of ranges and integer: Valid, Normal, Has and Total answer as the reference does. No condition beyond the form's own reach. -/
import Derived.Test.YtdfnmohgkjonfaaSAwake
import Derived.ChangeOld
namespace Go.Proofs.Ytdfnmohgkjonfaa.SpanNormals
open Go.ChangeShapes Go.WideShapes Go.ChangeAt Go.RowKit
open Go.ChangeMaps (open_string shut_string)
open Go.Proofs.Ytdfnmohgkjonfaa.Wire
open Go.Proofs.Ytdfnmohgkjonfaa.Span
set_option linter.unusedVariables false
set_option linter.unusedSimpArgs false

set_option maxRecDepth 100000 in
set_option maxHeartbeats 8000000 in
theorem walk (a0 : Option Addr) (len0 cap0 : Nat) (z0 : List Pr) (a1 : Int) (w : World) (s0 : ShP w w.heap.size a0 len0 z0) (l0 : len0 ≤ cap0) (O0 : okp z0) (b0 : cap0 * 16 ≤ 140737488351232) (w1 : (Lit.int .i64 a1).wf = true) :
    Calls Try.prog 3 #[.slice a0 len0 cap0, .int .i64 a1] w fun e w' => e = .returned (.bool true) ∧ Bl w w' := by
  have e0 := s0.len
  have N1 := wf_i64 w1
  by_cases few : len0 ≤ 60
  · have f0 := few
    have g0 : z0.length ≤ 60 := by omega
    have H0 := hid e0
    clear e0
    go_enter Try.func3, Try.ntmps3
    go_wp2_with fail
    refine (few_yes _ _ _ _ _ _ _ _ _ _ (by omega) (by omega) (by omega)).mono ?_
    rintro e w' ⟨rfl, rfl⟩
    go_wp2_with fail
    refine (Valid_any _ _ _ _ _ s0 l0 O0 (by omega)).mono ?_
    rintro e v1 ⟨rfl, b1⟩
    have B1 := Bl.trans (Bl.refl _) b1
    clear b1
    go_wp2_with fail
    refine (RValid_any _ _ _ _ _ (s0.bl B1) (by omega)).mono ?_
    rintro e v2 ⟨rfl, b2⟩
    have B2 := Bl.trans B1 b2
    clear b2  B1
    go_wp2_with fail
    refine (Normal_any _ _ _ _ _ (s0.bl B2) l0 O0 (by omega)).mono ?_
    rintro e v3 ⟨A_N, c_N, rfl, h_N, hc_N, b3⟩
    have B3 := Bl.trans B2 b3
    have m_N : (nor z0).length ≤ 120 := by have := nor_len z0; omega
    have o_N := hid (oks_nor O0)
    generalize e_N : nor z0 = L_N at h_N hc_N m_N o_N ⊢
    have E_N := hid e_N
    clear e_N b3  B2
    go_wp2_with fail
    refine (RNormal_anx _ _ _ _ _ (s0.bl B3) l0 O0 (by omega)).mono ?_
    rintro e v4 ⟨A_R, c_R, rfl, h_R, hc_R, b4⟩
    have B4 := Bl.trans B3 b4
    have h_N_1 := h_N.bl b4
    have m_R : (nor z0).length ≤ 120 := by have := nor_len z0; omega
    have o_R := hid (oks_nor O0)
    generalize e_R : nor z0 = L_R at h_R hc_R m_R o_R ⊢
    have E_R := hid e_R
    clear e_R b4 h_N B3
    go_wp2_with fail
    refine (Same_yes _ _ _ _ _ _ _ _ _ h_N_1 h_R (by omega) (by omega) (by rw [← E_R.out, ← E_N.out])).mono ?_
    rintro e v5 ⟨rfl, q5⟩
    have B5 := Bl.q B4 q5
    clear q5 h_N_1 h_R B4
    go_wp2_with fail
    refine (Has_any _ _ _ _ _ _ (s0.bl B5) l0 O0 N1.1 N1.2 (by omega)).mono ?_
    rintro e v6 ⟨rfl, b6⟩
    have B6 := Bl.trans B5 b6
    clear b6  B5
    go_wp2_with fail
    refine (RHas_any _ _ _ _ _ _ _ (s0.bl B6) (by omega)).mono ?_
    rintro e w' ⟨rfl, rfl⟩
    go_wp2_with fail
    refine (Total_any _ _ _ _ _ (s0.bl B6) l0 O0 (by omega)).mono ?_
    rintro e v7 ⟨rfl, b7⟩
    have B7 := Bl.trans B6 b7
    clear b7  B6
    go_wp2_with fail
    refine (RTotal_any _ _ _ _ _ (s0.bl B7) O0 (by omega)).mono ?_
    rintro e v8 ⟨rfl, b8⟩
    have B8 := Bl.trans B7 b8
    clear b8  B7
    go_wp2_with fail
    refine (awake_any _).mono ?_
    rintro e v9 ⟨rfl, b9⟩
    have B9 := Bl.trans B8 b9
    clear b9  B8
    go_wp2_with fail
    go_ret
    exact ⟨rfl, B9⟩
  · clear e0 O0
    go_enter Try.func3, Try.ntmps3
    go_wp2_with fail
    refine (few_no _ _ _ _ _ _ _ _ _ _ (by omega)).mono ?_
    rintro e w' ⟨rfl, rfl⟩
    go_wp2_with fail
    refine (awake_any _).mono ?_
    rintro e v1 ⟨rfl, b1⟩
    have B1 := Bl.trans (Bl.refl _) b1
    clear b1
    go_wp2_with fail
    go_ret
    exact ⟨rfl, B1⟩

set_option maxRecDepth 100000 in
theorem lifted (os : Os) (started : os.Started) (H : Type) (enc : TypeId × Value → H) :
    ReturnsInHanded {} Try.checked os 3 .any (Rows.spanNormalsSpec.pre6 enc Try.prog Try.f3 Rows.spanNormalsRow.domain false) (Rows.spanNormalsSpec.post enc Try.prog Try.f3 false true false false) := by
  refine returnsInHanded_of_change_sized (C := Try.checked) own started (by kernel_rfl) Try.func3
    (ChangeSpec.witness6 (enc := enc) (C := Try.checked) false ⟨#[], #[.slice none 0 0, .int .i64 0], []⟩ 8 (by kernel_rfl) (by kernel_rfl) (by kernel_rfl) (by kernel_rfl)) ?_
  intro W base args ds gs before hval0 hW _ hsz0 _
  have hsz : (DataW.weightsEach Try.prog (Try.f3.params.toList ++ Rows.spanNormalsSpec.plain.varTypes Try.prog) (ds ++ gs)).all (· ≤ reachBytes) = true := hsz0
  have hval : ∀ (j : Nat) t v, Try.f3.params[j]? = some t → args[j]? = some v → Value.okWide Try.prog W .any base t v := hval0
  have hW' := hW
  obtain ⟨p, q, hA0, hV, rfl, hfz, hnd⟩ := hW
  have hA : DataW.TrodAll enc Try.prog W 0 (fun _ => true) true Try.f3.params.toList args.toList ds p := hA0
  rw [Try.params3] at hA hval hsz
  obtain ⟨v0, vs0, d0, ds0, p0, q0, hargs, rfl, rfl, h0, r0⟩ := trodAll_cons hA
  obtain ⟨v1, vs1, d1, ds1, p1, q1, rfl, rfl, rfl, h1, r1⟩ := trodAll_cons r0
  obtain ⟨rfl, rfl, rfl⟩ := trodAll_nil r1
  obtain rfl : args = #[v0, v1] := by cases args; simp_all
  obtain ⟨rfl, rfl⟩ := trodVars_none hV
  have k0 := h0
  obtain ⟨a0, len0, cap0, z0, rfl, l0, m0, s0, O0, g0, f0, lt0⟩ := open_pairs Try.underlying22 Try.underlying34 (by kernel_rfl) ⟨rfl, rfl⟩ ⟨rfl, rfl⟩ (hval 0 22 v0 rfl rfl) h0
  have b0 := reach_pairs hsz (j := 0) (t := 22) (e := 34) rfl rfl Try.underlying22 (by kernel_rfl) f0
  obtain ⟨a1, rfl, rfl, rfl, w1⟩ := open_int Try.underlying3 (hval 1 3 v1 rfl rfl) h1
  clear hA0 hval0
  refine (walk a0 len0 cap0 z0 a1 W s0 l0 O0 b0 w1).mono fun e W' ⟨he, bel⟩ => ?_
  subst he
  exact ⟨_, rfl, _, _, _, [], _, [], hW', trodAll_mk1 (shut_bool Try.underlying4 _), (trodAll_cons_mk (Below.trod laidOut (by kernel_rfl) (of_decide_eq_true (by kernel_rfl)) k0 bel lt0) (trodAll_cons_mk (shut_int Try.underlying3 w1) trodAll_mk0)), rfl, Below.frame bel _, fun h => by cases h⟩

theorem holds : Rows.SpanNormalsSaid :=
  OpenClaim.holds_of_wide 3 Try.f3 rfl rfl rfl rfl rfl rfl rfl ⟨rfl, rfl, rfl, rfl, rfl⟩ rfl rfl rfl rfl rfl (by kernel_rfl) Try.func3 (by kernel_rfl)
    (of_decide_eq_true (by kernel_rfl)) (by unfold Func.isWrapper; first | (rw [if_pos (by decide +kernel)]; kernel_rfl) | (rw [if_neg (by decide +kernel)]; exact ⟨rfl, rfl⟩))
    (fun os started H enc _ => lifted os started H enc)
end Go.Proofs.Ytdfnmohgkjonfaa.SpanNormals
