/- IdsetDivides returns true for every two lists of integers: the difference and the intersection make up a set. No condition beyond the form's own reach. -/
import Derived.Test.YtofjfnpfcibbeaaIAwake
import Derived.Test.YtofjfnpfcibbeaaIOks
import Derived.Test.YtofjfnpfcibbeaaWArgs
namespace Go.Proofs.Ytofjfnpfcibbeaa.IdsetDivides
open Go.ChangeShapes Go.WideShapes Go.ChangeAt Go.RowKit
open Go.ChangeMaps (open_string shut_string)
open Go.Proofs.Ytofjfnpfcibbeaa.Wire
open Go.Proofs.Ytofjfnpfcibbeaa.Idset
set_option linter.unusedVariables false
set_option linter.unusedSimpArgs false

set_option maxRecDepth 100000 in
set_option maxHeartbeats 4000000 in
theorem walk (a0 : Option Addr) (len0 cap0 : Nat) (z0 : List Int) (a1 : Option Addr) (len1 cap1 : Nat) (z1 : List Int) (w : World) (s0 : Sh w w.heap.size .i64 a0 len0 z0) (l0 : len0 ≤ cap0) (w0 : ∀ n ∈ z0, (Lit.int .i64 n).wf = true) (b0 : cap0 * 8 ≤ 140737488351232) (s1 : Sh w w.heap.size .i64 a1 len1 z1) (l1 : len1 ≤ cap1) (w1 : ∀ n ∈ z1, (Lit.int .i64 n).wf = true) (b1 : cap1 * 8 ≤ 140737488351232) :
    Calls Try.prog 8 #[.slice a0 len0 cap0, .slice a1 len1 cap1] w fun e w' => e = .returned (.bool true) ∧ Bl w w' := by
  have O0 : oks z0 := fun x hx => wf_i64 (w0 x hx)
  have e0 := s0.len
  have O1 : oks z1 := fun x hx => wf_i64 (w1 x hx)
  have e1 := s1.len
  by_cases few : len0 ≤ 100 ∧ len1 ≤ 100
  · obtain ⟨f0, f1⟩ := few
    have g0 : z0.length ≤ 100 := by omega
    have g1 : z1.length ≤ 100 := by omega
    have H0 := hid e0
    have H1 := hid e1
    clear e0 e1 w0 w1
    go_enter Try.func8, Try.ntmps8
    go_wp2_with fail
    refine (few_yes _ _ _ _ _ _ _ _ _ _ (by omega) (by omega) (by omega)).mono ?_
    rintro e w' ⟨rfl, rfl⟩
    go_wp2_with fail
    refine (Inter_any _ _ _ _ _ _ _ _ _ s0 s1 l0 l1 O0 O1 (by omega) (by omega)).mono ?_
    rintro e v1 ⟨A_I, c_I, rfl, h_I, hc_I, b1⟩
    have B1 := Bl.trans (Bl.refl _) b1
    have m_I : (int z0 z1).length ≤ 100 := by have := int_len z0 z1; omega
    have o_I := hid (oks_int O0 O1)
    generalize e_I : int z0 z1 = L_I at h_I hc_I m_I o_I ⊢
    have E_I := hid e_I
    clear e_I b1
    go_wp2_with fail
    refine (Minus_any _ _ _ _ _ _ _ _ _ (s0.bl B1) (s1.bl B1) l0 l1 O0 O1 (by omega) (by omega)).mono ?_
    rintro e v2 ⟨A_M, c_M, rfl, h_M, hc_M, b2⟩
    have B2 := Bl.trans B1 b2
    have h_I_1 := h_I.bl b2
    have m_M : (mns z0 z1).length ≤ 100 := by have := mns_len z0 z1; omega
    have o_M := hid (oks_mns O0 O1)
    generalize e_M : mns z0 z1 = L_M at h_M hc_M m_M o_M ⊢
    have E_M := hid e_M
    clear e_M b2 h_I B1
    go_wp2_with fail
    refine (awake_any _).mono ?_
    rintro e v3 ⟨rfl, b3⟩
    have B3 := Bl.trans B2 b3
    have h_I_2 := h_I_1.bl b3
    have h_M_1 := h_M.bl b3
    clear b3 h_I_1 h_M B2
    go_wp2_with fail
    refine (Union_any _ _ _ _ _ _ _ _ _ h_I_2 h_M_1 hc_I hc_M o_I.out o_M.out (by omega) (by omega)).mono ?_
    rintro e v4 ⟨A_U, c_U, rfl, h_U, hc_U, b4⟩
    have B4 := Bl.trans B3 b4
    have h_M_2 := h_M_1.bl b4
    have m_U : (uni L_I L_M).length ≤ 200 := by have := uni_len L_I L_M; omega
    have o_U := hid (oks_uni o_I.out o_M.out)
    generalize e_U : uni L_I L_M = L_U at h_U hc_U m_U o_U ⊢
    have E_U := hid e_U
    clear e_U b4 h_I_2 h_M_1 B3
    go_wp2_with fail
    refine (Normal_any _ _ _ _ _ (s0.bl B4) l0 O0 (by omega)).mono ?_
    rintro e v5 ⟨A_N, c_N, rfl, h_N, hc_N, b5⟩
    have B5 := Bl.trans B4 b5
    have h_M_3 := h_M_2.bl b5
    have h_U_1 := h_U.bl b5
    have m_N : (nrm z0).length ≤ 100 := by have := nrm_len z0; omega
    have o_N := hid (oks_nrm O0)
    generalize e_N : nrm z0 = L_N at h_N hc_N m_N o_N ⊢
    have E_N := hid e_N
    clear e_N b5 h_M_2 h_U B4
    go_wp2_with fail
    refine (Same_yes _ _ _ _ _ _ _ _ _ h_U_1 h_N (by omega) (by omega) (by rw [← E_N.out, ← E_U.out, ← E_M.out, ← E_I.out]; exact uni_parts _ _)).mono ?_
    rintro e v6 ⟨rfl, q6⟩
    have B6 := Bl.q B5 q6
    have h_M_4 := h_M_3.bl q6.bl
    clear q6 h_M_3 h_U_1 h_N B5
    go_wp2_with fail
    refine (Inter_any _ _ _ _ _ _ _ _ _ h_M_4 (s1.bl B6) hc_M l1 o_M.out O1 (by omega) (by omega)).mono ?_
    rintro e v7 ⟨A_K, c_K, rfl, h_K, hc_K, b7⟩
    have B7 := Bl.trans B6 b7
    have m_K : (int L_M z1).length ≤ 100 := by have := int_len L_M z1; omega
    have o_K := hid (oks_int o_M.out O1)
    generalize e_K : int L_M z1 = L_K at h_K hc_K m_K o_K ⊢
    have E_K := hid e_K
    clear e_K b7 h_M_4 B6
    have k0 : L_K = [] := by rw [← E_K.out, ← E_M.out]; exact int_apart _ _
    subst k0
    go_wp2_with fail
    refine (Normal_any _ _ _ _ _ (s0.bl B7) l0 O0 (by omega)).mono ?_
    rintro e v8 ⟨A_N2, c_N2, rfl, h_N2, hc_N2, b8⟩
    have B8 := Bl.trans B7 b8
    have m_N2 : (nrm z0).length ≤ 100 := by have := nrm_len z0; omega
    have o_N2 := hid (oks_nrm O0)
    generalize e_N2 : nrm z0 = L_N2 at h_N2 hc_N2 m_N2 o_N2 ⊢
    have E_N2 := hid e_N2
    clear e_N2 b8 h_K B7
    have d1 : ((L_I.length : Int) + (L_M.length : Int) == (L_N2.length : Int)) = true := by
      have := len_parts z0 z1
      rw [E_I.out, E_M.out, E_N2.out] at this
      rw [beq_iff_eq]; omega
    go_wp2_with fail
    refine (Union_any _ _ _ _ _ _ _ _ _ (s0.bl B8) (s1.bl B8) l0 l1 O0 O1 (by omega) (by omega)).mono ?_
    rintro e v9 ⟨A_U2, c_U2, rfl, h_U2, hc_U2, b9⟩
    have B9 := Bl.trans B8 b9
    have m_U2 : (uni z0 z1).length ≤ 200 := by have := uni_len z0 z1; omega
    have o_U2 := hid (oks_uni O0 O1)
    generalize e_U2 : uni z0 z1 = L_U2 at h_U2 hc_U2 m_U2 o_U2 ⊢
    have E_U2 := hid e_U2
    clear e_U2 b9 h_N2 B8
    go_wp2_with fail
    refine (Normal_any _ _ _ _ _ (s0.bl B9) l0 O0 (by omega)).mono ?_
    rintro e v10 ⟨A_N3, c_N3, rfl, h_N3, hc_N3, b10⟩
    have B10 := Bl.trans B9 b10
    have m_N3 : (nrm z0).length ≤ 100 := by have := nrm_len z0; omega
    have o_N3 := hid (oks_nrm O0)
    generalize e_N3 : nrm z0 = L_N3 at h_N3 hc_N3 m_N3 o_N3 ⊢
    have E_N3 := hid e_N3
    clear e_N3 b10 h_U2 B9
    go_wp2_with fail
    refine (Normal_any _ _ _ _ _ (s1.bl B10) l1 O1 (by omega)).mono ?_
    rintro e v11 ⟨A_N4, c_N4, rfl, h_N4, hc_N4, b11⟩
    have B11 := Bl.trans B10 b11
    have m_N4 : (nrm z1).length ≤ 100 := by have := nrm_len z1; omega
    have o_N4 := hid (oks_nrm O1)
    generalize e_N4 : nrm z1 = L_N4 at h_N4 hc_N4 m_N4 o_N4 ⊢
    have E_N4 := hid e_N4
    clear e_N4 b11 h_N3 B10
    have d2 : ((L_U2.length : Int) + (L_I.length : Int) == (L_N3.length : Int) + (L_N4.length : Int)) = true := by
      have := len_uni z0 z1
      rw [E_I.out, E_U2.out, E_N3.out, E_N4.out] at this
      rw [beq_iff_eq]; omega
    go_wp2_with fail
    go_ret
    exact ⟨rfl, B11⟩
  · clear e0 O0 e1 O1
    go_enter Try.func8, Try.ntmps8
    go_wp2_with fail
    refine (few_no _ _ _ _ _ _ _ _ _ _ (by omega)).mono ?_
    rintro e w' ⟨rfl, rfl⟩
    go_wp2_with fail
    refine (awake_any _).mono ?_
    rintro e v1 ⟨rfl, b1⟩
    have B1 := Bl.trans (Bl.refl _) b1
    clear b1
    go_wp2_with fail
    go_ret
    exact ⟨rfl, B1⟩

set_option maxRecDepth 100000 in
theorem lifted (os : Os) (started : os.Started) (H : Type) (enc : TypeId × Value → H) :
    ReturnsInHanded {} Try.checked os 8 .any (Rows.idsetDividesSpec.pre6 enc Try.prog Try.f8 Rows.idsetDividesRow.domain false) (Rows.idsetDividesSpec.post enc Try.prog Try.f8 false true false false) := by
  refine returnsInHanded_of_change_sized (C := Try.checked) own started (by kernel_rfl) Try.func8
    (ChangeSpec.witness6 (enc := enc) (C := Try.checked) false ⟨#[], #[.slice none 0 0, .slice none 0 0], []⟩ 8 (by kernel_rfl) (by kernel_rfl) (by kernel_rfl) (by kernel_rfl)) ?_
  intro W base args ds gs before hval0 hW _ hsz0 _
  have hsz : (DataW.weightsEach Try.prog (Try.f8.params.toList ++ Rows.idsetDividesSpec.plain.varTypes Try.prog) (ds ++ gs)).all (· ≤ reachBytes) = true := hsz0
  have hval : ∀ (j : Nat) t v, Try.f8.params[j]? = some t → args[j]? = some v → Value.okWide Try.prog W .any base t v := hval0
  have hW' := hW
  obtain ⟨p, q, hA0, hV, rfl, hfz, hnd⟩ := hW
  have hA : DataW.TrodAll enc Try.prog W 0 (fun _ => true) true Try.f8.params.toList args.toList ds p := hA0
  rw [Try.params8] at hA hval hsz
  obtain ⟨v0, vs0, d0, ds0, p0, q0, hargs, rfl, rfl, h0, r0⟩ := trodAll_cons hA
  obtain ⟨v1, vs1, d1, ds1, p1, q1, rfl, rfl, rfl, h1, r1⟩ := trodAll_cons r0
  obtain ⟨rfl, rfl, rfl⟩ := trodAll_nil r1
  obtain rfl : args = #[v0, v1] := by cases args; simp_all
  obtain ⟨rfl, rfl⟩ := trodVars_none hV
  have k0 := h0
  obtain ⟨a0, len0, cap0, z0, rfl, l0, m0, n0, s0, w0, f0, lt0⟩ := open_row Try.underlying22 Try.underlying3 (by kernel_rfl) (hval 0 22 v0 rfl rfl) h0
  have b0 := reach_row hsz (j := 0) (t := 22) (e := 3) 8 rfl rfl Try.underlying22 (by kernel_rfl) n0 l0 f0
  have k1 := h1
  obtain ⟨a1, len1, cap1, z1, rfl, l1, m1, n1, s1, w1, f1, lt1⟩ := open_row Try.underlying22 Try.underlying3 (by kernel_rfl) (hval 1 22 v1 rfl rfl) h1
  have b1 := reach_row hsz (j := 1) (t := 22) (e := 3) 8 rfl rfl Try.underlying22 (by kernel_rfl) n1 l1 f1
  clear hA0 hval0
  refine (walk a0 len0 cap0 (z0.take len0) a1 len1 cap1 (z1.take len1) W s0 l0 (fun n hn => w0 n (List.mem_of_mem_take hn)) b0 s1 l1 (fun n hn => w1 n (List.mem_of_mem_take hn)) b1).mono fun e W' ⟨he, bel⟩ => ?_
  subst he
  exact ⟨_, rfl, _, _, _, [], _, [], hW', trodAll_mk1 (shut_bool Try.underlying4 _), (trodAll_cons_mk (Below.trod laidOut (by kernel_rfl) (of_decide_eq_true (by kernel_rfl)) k0 bel lt0) (trodAll_cons_mk (Below.trod laidOut (by kernel_rfl) (of_decide_eq_true (by kernel_rfl)) k1 bel lt1) trodAll_mk0)), rfl, Below.frame bel _, fun h => by cases h⟩

theorem holds : Rows.IdsetDividesSaid :=
  OpenClaim.holds_of_wide 8 Try.f8 rfl rfl rfl rfl rfl rfl rfl ⟨rfl, rfl, rfl, rfl, rfl⟩ rfl rfl rfl rfl rfl (by kernel_rfl) Try.func8 (by kernel_rfl)
    (of_decide_eq_true (by kernel_rfl)) (by unfold Func.isWrapper; first | (rw [if_pos (by decide +kernel)]; kernel_rfl) | (rw [if_neg (by decide +kernel)]; exact ⟨rfl, rfl⟩))
    (fun os started H enc _ => lifted os started H enc)
end Go.Proofs.Ytofjfnpfcibbeaa.IdsetDivides
