/- SpanCombines returns true for every two lists of ranges: Union, Inter and Minus answer as the reference does. No condition beyond the form's own reach. -/
import Derived.Test.YtdfnmohgkjonfaaSAwake
import Derived.ChangeOld
namespace Go.Proofs.Ytdfnmohgkjonfaa.SpanCombines
open Go.ChangeShapes Go.WideShapes Go.ChangeAt Go.RowKit
open Go.ChangeMaps (open_string shut_string)
open Go.Proofs.Ytdfnmohgkjonfaa.Wire
open Go.Proofs.Ytdfnmohgkjonfaa.Span
set_option linter.unusedVariables false
set_option linter.unusedSimpArgs false

set_option maxRecDepth 100000 in
set_option maxHeartbeats 8000000 in
theorem walk (a0 : Option Addr) (len0 cap0 : Nat) (z0 : List Pr) (a1 : Option Addr) (len1 cap1 : Nat) (z1 : List Pr) (w : World) (s0 : ShP w w.heap.size a0 len0 z0) (l0 : len0 ≤ cap0) (O0 : okp z0) (b0 : cap0 * 16 ≤ 140737488351232) (s1 : ShP w w.heap.size a1 len1 z1) (l1 : len1 ≤ cap1) (O1 : okp z1) (b1 : cap1 * 16 ≤ 140737488351232) :
    Calls Try.prog 4 #[.slice a0 len0 cap0, .slice a1 len1 cap1] w fun e w' => e = .returned (.bool true) ∧ Bl w w' := by
  have e0 := s0.len
  have e1 := s1.len
  by_cases few : len0 ≤ 60 ∧ len1 ≤ 60
  · obtain ⟨f0, f1⟩ := few
    have g0 : z0.length ≤ 60 := by omega
    have g1 : z1.length ≤ 60 := by omega
    have H0 := hid e0
    have H1 := hid e1
    clear e0 e1
    go_enter Try.func4, Try.ntmps4
    go_wp2_with fail
    refine (few_yes _ _ _ _ _ _ _ _ _ _ (by omega) (by omega) (by omega)).mono ?_
    rintro e w' ⟨rfl, rfl⟩
    go_wp2_with fail
    refine (Union_any _ _ _ _ _ _ _ _ _ s0 s1 l0 l1 O0 O1 (by omega) (by omega)).mono ?_
    rintro e v1 ⟨A_U0, c_U0, rfl, h_U0, hc_U0, b1⟩
    have B1 := Bl.trans (Bl.refl _) b1
    have m_U0 : (uni z0 z1).length ≤ 240 := by have := uni_len z0 z1; omega
    have o_U0 := hid (oks_uni O0 O1)
    generalize e_U0 : uni z0 z1 = L_U0 at h_U0 hc_U0 m_U0 o_U0 ⊢
    have E_U0 := hid e_U0
    clear e_U0 b1
    go_wp2_with fail
    refine (RUnion_anx _ _ _ _ _ _ _ _ _ (s0.bl B1) (s1.bl B1) l0 l1 O0 O1 (by omega) (by omega)).mono ?_
    rintro e v2 ⟨A_V0, c_V0, rfl, h_V0, hc_V0, b2⟩
    have B2 := Bl.trans B1 b2
    have h_U0_1 := h_U0.bl b2
    have m_V0 : (uni z0 z1).length ≤ 240 := by have := uni_len z0 z1; omega
    have o_V0 := hid (oks_uni O0 O1)
    generalize e_V0 : uni z0 z1 = L_V0 at h_V0 hc_V0 m_V0 o_V0 ⊢
    have E_V0 := hid e_V0
    clear e_V0 b2 h_U0 B1
    go_wp2_with fail
    refine (Same_yes _ _ _ _ _ _ _ _ _ h_U0_1 h_V0 (by omega) (by omega) (by rw [← E_V0.out, ← E_U0.out])).mono ?_
    rintro e v3 ⟨rfl, q3⟩
    have B3 := Bl.q B2 q3
    clear q3 h_U0_1 h_V0 B2
    go_wp2_with fail
    refine (Inter_any _ _ _ _ _ _ _ _ _ (s0.bl B3) (s1.bl B3) l0 l1 O0 O1 (by omega) (by omega)).mono ?_
    rintro e v4 ⟨A_U1, c_U1, rfl, h_U1, hc_U1, b4⟩
    have B4 := Bl.trans B3 b4
    have m_U1 : (int z0 z1).length ≤ 240 := by have := int_len z0 z1; omega
    have o_U1 := hid (oks_int O0 O1)
    generalize e_U1 : int z0 z1 = L_U1 at h_U1 hc_U1 m_U1 o_U1 ⊢
    have E_U1 := hid e_U1
    clear e_U1 b4  B3
    go_wp2_with fail
    refine (RInter_anx _ _ _ _ _ _ _ _ _ (s0.bl B4) (s1.bl B4) l0 l1 O0 O1 (by omega) (by omega)).mono ?_
    rintro e v5 ⟨A_V1, c_V1, rfl, h_V1, hc_V1, b5⟩
    have B5 := Bl.trans B4 b5
    have h_U1_1 := h_U1.bl b5
    have m_V1 : (int z0 z1).length ≤ 240 := by have := int_len z0 z1; omega
    have o_V1 := hid (oks_int O0 O1)
    generalize e_V1 : int z0 z1 = L_V1 at h_V1 hc_V1 m_V1 o_V1 ⊢
    have E_V1 := hid e_V1
    clear e_V1 b5 h_U1 B4
    go_wp2_with fail
    refine (Same_yes _ _ _ _ _ _ _ _ _ h_U1_1 h_V1 (by omega) (by omega) (by rw [← E_V1.out, ← E_U1.out])).mono ?_
    rintro e v6 ⟨rfl, q6⟩
    have B6 := Bl.q B5 q6
    clear q6 h_U1_1 h_V1 B5
    go_wp2_with fail
    refine (Minus_any _ _ _ _ _ _ _ _ _ (s0.bl B6) (s1.bl B6) l0 l1 O0 O1 (by omega) (by omega)).mono ?_
    rintro e v7 ⟨A_U2, c_U2, rfl, h_U2, hc_U2, b7⟩
    have B7 := Bl.trans B6 b7
    have m_U2 : (mns z0 z1).length ≤ 240 := by have := mns_len z0 z1; omega
    have o_U2 := hid (oks_mns O0 O1)
    generalize e_U2 : mns z0 z1 = L_U2 at h_U2 hc_U2 m_U2 o_U2 ⊢
    have E_U2 := hid e_U2
    clear e_U2 b7  B6
    go_wp2_with fail
    refine (RMinus_anx _ _ _ _ _ _ _ _ _ (s0.bl B7) (s1.bl B7) l0 l1 O0 O1 (by omega) (by omega)).mono ?_
    rintro e v8 ⟨A_V2, c_V2, rfl, h_V2, hc_V2, b8⟩
    have B8 := Bl.trans B7 b8
    have h_U2_1 := h_U2.bl b8
    have m_V2 : (mns z0 z1).length ≤ 240 := by have := mns_len z0 z1; omega
    have o_V2 := hid (oks_mns O0 O1)
    generalize e_V2 : mns z0 z1 = L_V2 at h_V2 hc_V2 m_V2 o_V2 ⊢
    have E_V2 := hid e_V2
    clear e_V2 b8 h_U2 B7
    go_wp2_with fail
    refine (Same_yes _ _ _ _ _ _ _ _ _ h_U2_1 h_V2 (by omega) (by omega) (by rw [← E_V2.out, ← E_U2.out])).mono ?_
    rintro e v9 ⟨rfl, q9⟩
    have B9 := Bl.q B8 q9
    clear q9 h_U2_1 h_V2 B8
    go_wp2_with fail
    refine (awake_any _).mono ?_
    rintro e v10 ⟨rfl, b10⟩
    have B10 := Bl.trans B9 b10
    clear b10  B9
    go_wp2_with fail
    go_ret
    exact ⟨rfl, B10⟩
  · clear e0 O0 e1 O1
    go_enter Try.func4, Try.ntmps4
    go_wp2_with fail
    refine (few_no _ _ _ _ _ _ _ _ _ _ (by omega)).mono ?_
    rintro e w' ⟨rfl, rfl⟩
    go_wp2_with fail
    refine (awake_any _).mono ?_
    rintro e v1 ⟨rfl, b1⟩
    have B1 := Bl.trans (Bl.refl _) b1
    clear b1
    go_wp2_with fail
    go_ret
    exact ⟨rfl, B1⟩

set_option maxRecDepth 100000 in
theorem lifted (os : Os) (started : os.Started) (H : Type) (enc : TypeId × Value → H) :
    ReturnsInHanded {} Try.checked os 4 .any (Rows.spanCombinesSpec.pre6 enc Try.prog Try.f4 Rows.spanCombinesRow.domain false) (Rows.spanCombinesSpec.post enc Try.prog Try.f4 false true false false) := by
  refine returnsInHanded_of_change_sized (C := Try.checked) own started (by kernel_rfl) Try.func4
    (ChangeSpec.witness6 (enc := enc) (C := Try.checked) false ⟨#[], #[.slice none 0 0, .slice none 0 0], []⟩ 8 (by kernel_rfl) (by kernel_rfl) (by kernel_rfl) (by kernel_rfl)) ?_
  intro W base args ds gs before hval0 hW _ hsz0 _
  have hsz : (DataW.weightsEach Try.prog (Try.f4.params.toList ++ Rows.spanCombinesSpec.plain.varTypes Try.prog) (ds ++ gs)).all (· ≤ reachBytes) = true := hsz0
  have hval : ∀ (j : Nat) t v, Try.f4.params[j]? = some t → args[j]? = some v → Value.okWide Try.prog W .any base t v := hval0
  have hW' := hW
  obtain ⟨p, q, hA0, hV, rfl, hfz, hnd⟩ := hW
  have hA : DataW.TrodAll enc Try.prog W 0 (fun _ => true) true Try.f4.params.toList args.toList ds p := hA0
  rw [Try.params4] at hA hval hsz
  obtain ⟨v0, vs0, d0, ds0, p0, q0, hargs, rfl, rfl, h0, r0⟩ := trodAll_cons hA
  obtain ⟨v1, vs1, d1, ds1, p1, q1, rfl, rfl, rfl, h1, r1⟩ := trodAll_cons r0
  obtain ⟨rfl, rfl, rfl⟩ := trodAll_nil r1
  obtain rfl : args = #[v0, v1] := by cases args; simp_all
  obtain ⟨rfl, rfl⟩ := trodVars_none hV
  have k0 := h0
  obtain ⟨a0, len0, cap0, z0, rfl, l0, m0, s0, O0, g0, f0, lt0⟩ := open_pairs Try.underlying22 Try.underlying34 (by kernel_rfl) ⟨rfl, rfl⟩ ⟨rfl, rfl⟩ (hval 0 22 v0 rfl rfl) h0
  have b0 := reach_pairs hsz (j := 0) (t := 22) (e := 34) rfl rfl Try.underlying22 (by kernel_rfl) f0
  have k1 := h1
  obtain ⟨a1, len1, cap1, z1, rfl, l1, m1, s1, O1, g1, f1, lt1⟩ := open_pairs Try.underlying22 Try.underlying34 (by kernel_rfl) ⟨rfl, rfl⟩ ⟨rfl, rfl⟩ (hval 1 22 v1 rfl rfl) h1
  have b1 := reach_pairs hsz (j := 1) (t := 22) (e := 34) rfl rfl Try.underlying22 (by kernel_rfl) f1
  clear hA0 hval0
  refine (walk a0 len0 cap0 z0 a1 len1 cap1 z1 W s0 l0 O0 b0 s1 l1 O1 b1).mono fun e W' ⟨he, bel⟩ => ?_
  subst he
  exact ⟨_, rfl, _, _, _, [], _, [], hW', trodAll_mk1 (shut_bool Try.underlying4 _), (trodAll_cons_mk (Below.trod laidOut (by kernel_rfl) (of_decide_eq_true (by kernel_rfl)) k0 bel lt0) (trodAll_cons_mk (Below.trod laidOut (by kernel_rfl) (of_decide_eq_true (by kernel_rfl)) k1 bel lt1) trodAll_mk0)), rfl, Below.frame bel _, fun h => by cases h⟩

theorem holds : Rows.SpanCombinesSaid :=
  OpenClaim.holds_of_wide 4 Try.f4 rfl rfl rfl rfl rfl rfl rfl ⟨rfl, rfl, rfl, rfl, rfl⟩ rfl rfl rfl rfl rfl (by kernel_rfl) Try.func4 (by kernel_rfl)
    (of_decide_eq_true (by kernel_rfl)) (by unfold Func.isWrapper; first | (rw [if_pos (by decide +kernel)]; kernel_rfl) | (rw [if_neg (by decide +kernel)]; exact ⟨rfl, rfl⟩))
    (fun os started H enc _ => lifted os started H enc)
end Go.Proofs.Ytdfnmohgkjonfaa.SpanCombines
