/- IdsetCombines returns true for every two lists of integers: Union, Inter and Minus answer as the reference does. No condition beyond the form's own reach. -/
import Derived.Test.YtofjfnpfcibbeaaIAwake
import Derived.Test.YtofjfnpfcibbeaaIOks
import Derived.Test.YtofjfnpfcibbeaaWArgs
namespace Go.Proofs.Ytofjfnpfcibbeaa.IdsetCombines
open Go.ChangeShapes Go.WideShapes Go.ChangeAt Go.RowKit
open Go.ChangeMaps (open_string shut_string)
open Go.Proofs.Ytofjfnpfcibbeaa.Wire
open Go.Proofs.Ytofjfnpfcibbeaa.Idset
set_option linter.unusedVariables false
set_option linter.unusedSimpArgs false

set_option maxRecDepth 100000 in
set_option maxHeartbeats 4000000 in
theorem walk (a0 : Option Addr) (len0 cap0 : Nat) (z0 : List Int) (a1 : Option Addr) (len1 cap1 : Nat) (z1 : List Int) (w : World) (s0 : Sh w w.heap.size .i64 a0 len0 z0) (l0 : len0 ≤ cap0) (w0 : ∀ n ∈ z0, (Lit.int .i64 n).wf = true) (b0 : cap0 * 8 ≤ 140737488351232) (s1 : Sh w w.heap.size .i64 a1 len1 z1) (l1 : len1 ≤ cap1) (w1 : ∀ n ∈ z1, (Lit.int .i64 n).wf = true) (b1 : cap1 * 8 ≤ 140737488351232) :
    Calls Try.prog 5 #[.slice a0 len0 cap0, .slice a1 len1 cap1] w fun e w' => e = .returned (.bool true) ∧ Bl w w' := by
  have O0 : oks z0 := fun x hx => wf_i64 (w0 x hx)
  have e0 := s0.len
  have O1 : oks z1 := fun x hx => wf_i64 (w1 x hx)
  have e1 := s1.len
  by_cases few : len0 ≤ 100 ∧ len1 ≤ 100
  · obtain ⟨f0, f1⟩ := few
    have g0 : z0.length ≤ 100 := by omega
    have g1 : z1.length ≤ 100 := by omega
    have H0 := hid e0
    have H1 := hid e1
    clear e0 e1 w0 w1
    go_enter Try.func5, Try.ntmps5
    go_wp2_with fail
    refine (few_yes _ _ _ _ _ _ _ _ _ _ (by omega) (by omega) (by omega)).mono ?_
    rintro e w' ⟨rfl, rfl⟩
    go_wp2_with fail
    refine (awake_any _).mono ?_
    rintro e v1 ⟨rfl, b1⟩
    have B1 := Bl.trans (Bl.refl _) b1
    clear b1
    go_wp2_with fail
    refine (Union_any _ _ _ _ _ _ _ _ _ (s0.bl B1) (s1.bl B1) l0 l1 O0 O1 (by omega) (by omega)).mono ?_
    rintro e v2 ⟨A_U0, c_U0, rfl, h_U0, hc_U0, b2⟩
    have B2 := Bl.trans B1 b2
    have m_U0 : (uni z0 z1).length ≤ 200 := by have := uni_len z0 z1; omega
    have o_U0 := hid (oks_uni O0 O1)
    generalize e_U0 : uni z0 z1 = L_U0 at h_U0 hc_U0 m_U0 o_U0 ⊢
    have E_U0 := hid e_U0
    clear e_U0 b2  B1
    go_wp2_with fail
    refine (RUnion_anx _ _ _ _ _ _ _ _ _ (s0.bl B2) (s1.bl B2) l0 l1 O0 O1 (by omega) (by omega)).mono ?_
    rintro e v3 ⟨A_V0, c_V0, rfl, h_V0, hc_V0, b3⟩
    have B3 := Bl.trans B2 b3
    have h_U0_1 := h_U0.bl b3
    have m_V0 : (uni z0 z1).length ≤ 200 := by have := uni_len z0 z1; omega
    have o_V0 := hid (oks_uni O0 O1)
    generalize e_V0 : uni z0 z1 = L_V0 at h_V0 hc_V0 m_V0 o_V0 ⊢
    have E_V0 := hid e_V0
    clear e_V0 b3 h_U0 B2
    go_wp2_with fail
    refine (Same_yes _ _ _ _ _ _ _ _ _ h_U0_1 h_V0 (by omega) (by omega) (by rw [← E_V0.out, ← E_U0.out])).mono ?_
    rintro e v4 ⟨rfl, q4⟩
    have B4 := Bl.q B3 q4
    clear q4 h_U0_1 h_V0 B3
    go_wp2_with fail
    refine (Inter_any _ _ _ _ _ _ _ _ _ (s0.bl B4) (s1.bl B4) l0 l1 O0 O1 (by omega) (by omega)).mono ?_
    rintro e v5 ⟨A_U1, c_U1, rfl, h_U1, hc_U1, b5⟩
    have B5 := Bl.trans B4 b5
    have m_U1 : (int z0 z1).length ≤ 100 := by have := int_len z0 z1; omega
    have o_U1 := hid (oks_int O0 O1)
    generalize e_U1 : int z0 z1 = L_U1 at h_U1 hc_U1 m_U1 o_U1 ⊢
    have E_U1 := hid e_U1
    clear e_U1 b5  B4
    go_wp2_with fail
    refine (RInter_anx _ _ _ _ _ _ _ _ _ (s0.bl B5) (s1.bl B5) l0 l1 O0 O1 (by omega) (by omega)).mono ?_
    rintro e v6 ⟨A_V1, c_V1, rfl, h_V1, hc_V1, b6⟩
    have B6 := Bl.trans B5 b6
    have h_U1_1 := h_U1.bl b6
    have m_V1 : (int z0 z1).length ≤ 100 := by have := int_len z0 z1; omega
    have o_V1 := hid (oks_int O0 O1)
    generalize e_V1 : int z0 z1 = L_V1 at h_V1 hc_V1 m_V1 o_V1 ⊢
    have E_V1 := hid e_V1
    clear e_V1 b6 h_U1 B5
    go_wp2_with fail
    refine (Same_yes _ _ _ _ _ _ _ _ _ h_U1_1 h_V1 (by omega) (by omega) (by rw [← E_V1.out, ← E_U1.out])).mono ?_
    rintro e v7 ⟨rfl, q7⟩
    have B7 := Bl.q B6 q7
    clear q7 h_U1_1 h_V1 B6
    go_wp2_with fail
    refine (Minus_any _ _ _ _ _ _ _ _ _ (s0.bl B7) (s1.bl B7) l0 l1 O0 O1 (by omega) (by omega)).mono ?_
    rintro e v8 ⟨A_U2, c_U2, rfl, h_U2, hc_U2, b8⟩
    have B8 := Bl.trans B7 b8
    have m_U2 : (mns z0 z1).length ≤ 100 := by have := mns_len z0 z1; omega
    have o_U2 := hid (oks_mns O0 O1)
    generalize e_U2 : mns z0 z1 = L_U2 at h_U2 hc_U2 m_U2 o_U2 ⊢
    have E_U2 := hid e_U2
    clear e_U2 b8  B7
    go_wp2_with fail
    refine (RMinus_anx _ _ _ _ _ _ _ _ _ (s0.bl B8) (s1.bl B8) l0 l1 O0 O1 (by omega) (by omega)).mono ?_
    rintro e v9 ⟨A_V2, c_V2, rfl, h_V2, hc_V2, b9⟩
    have B9 := Bl.trans B8 b9
    have h_U2_1 := h_U2.bl b9
    have m_V2 : (mns z0 z1).length ≤ 100 := by have := mns_len z0 z1; omega
    have o_V2 := hid (oks_mns O0 O1)
    generalize e_V2 : mns z0 z1 = L_V2 at h_V2 hc_V2 m_V2 o_V2 ⊢
    have E_V2 := hid e_V2
    clear e_V2 b9 h_U2 B8
    go_wp2_with fail
    refine (Same_yes _ _ _ _ _ _ _ _ _ h_U2_1 h_V2 (by omega) (by omega) (by rw [← E_V2.out, ← E_U2.out])).mono ?_
    rintro e v10 ⟨rfl, q10⟩
    have B10 := Bl.q B9 q10
    clear q10 h_U2_1 h_V2 B9
    go_wp2_with fail
    go_ret
    exact ⟨rfl, B10⟩
  · clear e0 O0 e1 O1
    go_enter Try.func5, Try.ntmps5
    go_wp2_with fail
    refine (few_no _ _ _ _ _ _ _ _ _ _ (by omega)).mono ?_
    rintro e w' ⟨rfl, rfl⟩
    go_wp2_with fail
    refine (awake_any _).mono ?_
    rintro e v1 ⟨rfl, b1⟩
    have B1 := Bl.trans (Bl.refl _) b1
    clear b1
    go_wp2_with fail
    go_ret
    exact ⟨rfl, B1⟩

set_option maxRecDepth 100000 in
theorem lifted (os : Os) (started : os.Started) (H : Type) (enc : TypeId × Value → H) :
    ReturnsInHanded {} Try.checked os 5 .any (Rows.idsetCombinesSpec.pre6 enc Try.prog Try.f5 Rows.idsetCombinesRow.domain false) (Rows.idsetCombinesSpec.post enc Try.prog Try.f5 false true false false) := by
  refine returnsInHanded_of_change_sized (C := Try.checked) own started (by kernel_rfl) Try.func5
    (ChangeSpec.witness6 (enc := enc) (C := Try.checked) false ⟨#[], #[.slice none 0 0, .slice none 0 0], []⟩ 8 (by kernel_rfl) (by kernel_rfl) (by kernel_rfl) (by kernel_rfl)) ?_
  intro W base args ds gs before hval0 hW _ hsz0 _
  have hsz : (DataW.weightsEach Try.prog (Try.f5.params.toList ++ Rows.idsetCombinesSpec.plain.varTypes Try.prog) (ds ++ gs)).all (· ≤ reachBytes) = true := hsz0
  have hval : ∀ (j : Nat) t v, Try.f5.params[j]? = some t → args[j]? = some v → Value.okWide Try.prog W .any base t v := hval0
  have hW' := hW
  obtain ⟨p, q, hA0, hV, rfl, hfz, hnd⟩ := hW
  have hA : DataW.TrodAll enc Try.prog W 0 (fun _ => true) true Try.f5.params.toList args.toList ds p := hA0
  rw [Try.params5] at hA hval hsz
  obtain ⟨v0, vs0, d0, ds0, p0, q0, hargs, rfl, rfl, h0, r0⟩ := trodAll_cons hA
  obtain ⟨v1, vs1, d1, ds1, p1, q1, rfl, rfl, rfl, h1, r1⟩ := trodAll_cons r0
  obtain ⟨rfl, rfl, rfl⟩ := trodAll_nil r1
  obtain rfl : args = #[v0, v1] := by cases args; simp_all
  obtain ⟨rfl, rfl⟩ := trodVars_none hV
  have k0 := h0
  obtain ⟨a0, len0, cap0, z0, rfl, l0, m0, n0, s0, w0, f0, lt0⟩ := open_row Try.underlying22 Try.underlying3 (by kernel_rfl) (hval 0 22 v0 rfl rfl) h0
  have b0 := reach_row hsz (j := 0) (t := 22) (e := 3) 8 rfl rfl Try.underlying22 (by kernel_rfl) n0 l0 f0
  have k1 := h1
  obtain ⟨a1, len1, cap1, z1, rfl, l1, m1, n1, s1, w1, f1, lt1⟩ := open_row Try.underlying22 Try.underlying3 (by kernel_rfl) (hval 1 22 v1 rfl rfl) h1
  have b1 := reach_row hsz (j := 1) (t := 22) (e := 3) 8 rfl rfl Try.underlying22 (by kernel_rfl) n1 l1 f1
  clear hA0 hval0
  refine (walk a0 len0 cap0 (z0.take len0) a1 len1 cap1 (z1.take len1) W s0 l0 (fun n hn => w0 n (List.mem_of_mem_take hn)) b0 s1 l1 (fun n hn => w1 n (List.mem_of_mem_take hn)) b1).mono fun e W' ⟨he, bel⟩ => ?_
  subst he
  exact ⟨_, rfl, _, _, _, [], _, [], hW', trodAll_mk1 (shut_bool Try.underlying4 _), (trodAll_cons_mk (Below.trod laidOut (by kernel_rfl) (of_decide_eq_true (by kernel_rfl)) k0 bel lt0) (trodAll_cons_mk (Below.trod laidOut (by kernel_rfl) (of_decide_eq_true (by kernel_rfl)) k1 bel lt1) trodAll_mk0)), rfl, Below.frame bel _, fun h => by cases h⟩

theorem holds : Rows.IdsetCombinesSaid :=
  OpenClaim.holds_of_wide 5 Try.f5 rfl rfl rfl rfl rfl rfl rfl ⟨rfl, rfl, rfl, rfl, rfl⟩ rfl rfl rfl rfl rfl (by kernel_rfl) Try.func5 (by kernel_rfl)
    (of_decide_eq_true (by kernel_rfl)) (by unfold Func.isWrapper; first | (rw [if_pos (by decide +kernel)]; kernel_rfl) | (rw [if_neg (by decide +kernel)]; exact ⟨rfl, rfl⟩))
    (fun os started H enc _ => lifted os started H enc)
end Go.Proofs.Ytofjfnpfcibbeaa.IdsetCombines
