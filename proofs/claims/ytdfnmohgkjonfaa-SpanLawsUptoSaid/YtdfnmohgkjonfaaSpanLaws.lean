/- SpanLaws returns true for every three lists of ranges that hold together at most 1048576 values: intersection distributes over union, removing a union is removing both. One condition: that bound. -/
import Derived.Test.YtdfnmohgkjonfaaSAwake
import Derived.ChangeOld
namespace Go.Proofs.Ytdfnmohgkjonfaa.SpanLaws
open Go.ChangeShapes Go.WideShapes Go.ChangeAt Go.RowKit
open Go.ChangeMaps (open_string shut_string)
open Go.Proofs.Ytdfnmohgkjonfaa.Wire
open Go.Proofs.Ytdfnmohgkjonfaa.Span
set_option linter.unusedVariables false
set_option linter.unusedSimpArgs false

set_option maxRecDepth 100000 in
set_option maxHeartbeats 8000000 in
theorem walk (a0 : Option Addr) (len0 cap0 : Nat) (z0 : List Pr) (a1 : Option Addr) (len1 cap1 : Nat) (z1 : List Pr) (a2 : Option Addr) (len2 cap2 : Nat) (z2 : List Pr) (w : World) (s0 : ShP w w.heap.size a0 len0 z0) (l0 : len0 ≤ cap0) (O0 : okp z0) (s1 : ShP w w.heap.size a1 len1 z1) (l1 : len1 ≤ cap1) (O1 : okp z1) (s2 : ShP w w.heap.size a2 len2 z2) (l2 : len2 ≤ cap2) (O2 : okp z2) (hbk : cap0 + cap1 + cap2 ≤ 1048576) :
    Calls Try.prog 8 #[.slice a0 len0 cap0, .slice a1 len1 cap1, .slice a2 len2 cap2] w fun e w' => e = .returned (.bool true) ∧ Bl w w' := by
  have e0 := s0.len
  have e1 := s1.len
  have e2 := s2.len
  have f0 : len0 ≤ 1048576 := by omega
  have g0 : z0.length ≤ 1048576 := by omega
  have f1 : len1 ≤ 1048576 := by omega
  have g1 : z1.length ≤ 1048576 := by omega
  have f2 : len2 ≤ 1048576 := by omega
  have g2 : z2.length ≤ 1048576 := by omega
  have H0 := hid e0
  have H1 := hid e1
  have H2 := hid e2
  clear e0 e1 e2
  go_enter Try.func8, Try.ntmps8
  go_wp2_with fail
  refine (Union_any _ _ _ _ _ _ _ _ _ s1 s2 l1 l2 O1 O2 (by omega) (by omega)).mono ?_
  rintro e v1 ⟨A_U, c_U, rfl, h_U, hc_U, b1⟩
  have B1 := Bl.trans (Bl.refl _) b1
  have m_U : (uni z1 z2).length ≤ 4194304 := by have := uni_len z1 z2; omega
  have o_U := hid (oks_uni O1 O2)
  generalize e_U : uni z1 z2 = L_U at h_U hc_U m_U o_U ⊢
  have E_U := hid e_U
  clear e_U b1
  go_wp2_with fail
  refine (Inter_any _ _ _ _ _ _ _ _ _ (s0.bl B1) h_U l0 hc_U O0 o_U.out (by omega) (by omega)).mono ?_
  rintro e v2 ⟨A_X1, c_X1, rfl, h_X1, hc_X1, b2⟩
  have B2 := Bl.trans B1 b2
  have m_X1 : (int z0 L_U).length ≤ 10485760 := by have := int_len z0 L_U; omega
  have o_X1 := hid (oks_int O0 o_U.out)
  generalize e_X1 : int z0 L_U = L_X1 at h_X1 hc_X1 m_X1 o_X1 ⊢
  have E_X1 := hid e_X1
  clear e_X1 b2 h_U B1
  go_wp2_with fail
  refine (Inter_any _ _ _ _ _ _ _ _ _ (s0.bl B2) (s1.bl B2) l0 l1 O0 O1 (by omega) (by omega)).mono ?_
  rintro e v3 ⟨A_X2, c_X2, rfl, h_X2, hc_X2, b3⟩
  have B3 := Bl.trans B2 b3
  have h_X1_1 := h_X1.bl b3
  have m_X2 : (int z0 z1).length ≤ 4194304 := by have := int_len z0 z1; omega
  have o_X2 := hid (oks_int O0 O1)
  generalize e_X2 : int z0 z1 = L_X2 at h_X2 hc_X2 m_X2 o_X2 ⊢
  have E_X2 := hid e_X2
  clear e_X2 b3 h_X1 B2
  go_wp2_with fail
  refine (Inter_any _ _ _ _ _ _ _ _ _ (s0.bl B3) (s2.bl B3) l0 l2 O0 O2 (by omega) (by omega)).mono ?_
  rintro e v4 ⟨A_X3, c_X3, rfl, h_X3, hc_X3, b4⟩
  have B4 := Bl.trans B3 b4
  have h_X1_2 := h_X1_1.bl b4
  have h_X2_1 := h_X2.bl b4
  have m_X3 : (int z0 z2).length ≤ 4194304 := by have := int_len z0 z2; omega
  have o_X3 := hid (oks_int O0 O2)
  generalize e_X3 : int z0 z2 = L_X3 at h_X3 hc_X3 m_X3 o_X3 ⊢
  have E_X3 := hid e_X3
  clear e_X3 b4 h_X1_1 h_X2 B3
  go_wp2_with fail
  refine (Union_any _ _ _ _ _ _ _ _ _ h_X2_1 h_X3 hc_X2 hc_X3 o_X2.out o_X3.out (by omega) (by omega)).mono ?_
  rintro e v5 ⟨A_X4, c_X4, rfl, h_X4, hc_X4, b5⟩
  have B5 := Bl.trans B4 b5
  have h_X1_3 := h_X1_2.bl b5
  have m_X4 : (uni L_X2 L_X3).length ≤ 16777216 := by have := uni_len L_X2 L_X3; omega
  have o_X4 := hid (oks_uni o_X2.out o_X3.out)
  generalize e_X4 : uni L_X2 L_X3 = L_X4 at h_X4 hc_X4 m_X4 o_X4 ⊢
  have E_X4 := hid e_X4
  clear e_X4 b5 h_X1_2 h_X2_1 h_X3 B4
  go_wp2_with fail
  refine (Same_yes _ _ _ _ _ _ _ _ _ h_X1_3 h_X4 (by omega) (by omega) (by rw [← E_X4.out, ← E_X3.out, ← E_X2.out, ← E_X1.out, ← E_U.out]; exact law1 _ _ _)).mono ?_
  rintro e v6 ⟨rfl, q6⟩
  have B6 := Bl.q B5 q6
  clear q6 h_X1_3 h_X4 B5
  go_wp2_with fail
  refine (Union_any _ _ _ _ _ _ _ _ _ (s1.bl B6) (s2.bl B6) l1 l2 O1 O2 (by omega) (by omega)).mono ?_
  rintro e v7 ⟨A_U2, c_U2, rfl, h_U2, hc_U2, b7⟩
  have B7 := Bl.trans B6 b7
  have m_U2 : (uni z1 z2).length ≤ 4194304 := by have := uni_len z1 z2; omega
  have o_U2 := hid (oks_uni O1 O2)
  generalize e_U2 : uni z1 z2 = L_U2 at h_U2 hc_U2 m_U2 o_U2 ⊢
  have E_U2 := hid e_U2
  clear e_U2 b7  B6
  go_wp2_with fail
  refine (Minus_any _ _ _ _ _ _ _ _ _ (s0.bl B7) h_U2 l0 hc_U2 O0 o_U2.out (by omega) (by omega)).mono ?_
  rintro e v8 ⟨A_Y1, c_Y1, rfl, h_Y1, hc_Y1, b8⟩
  have B8 := Bl.trans B7 b8
  have m_Y1 : (mns z0 L_U2).length ≤ 10485760 := by have := mns_len z0 L_U2; omega
  have o_Y1 := hid (oks_mns O0 o_U2.out)
  generalize e_Y1 : mns z0 L_U2 = L_Y1 at h_Y1 hc_Y1 m_Y1 o_Y1 ⊢
  have E_Y1 := hid e_Y1
  clear e_Y1 b8 h_U2 B7
  go_wp2_with fail
  refine (Minus_any _ _ _ _ _ _ _ _ _ (s0.bl B8) (s1.bl B8) l0 l1 O0 O1 (by omega) (by omega)).mono ?_
  rintro e v9 ⟨A_Y2, c_Y2, rfl, h_Y2, hc_Y2, b9⟩
  have B9 := Bl.trans B8 b9
  have h_Y1_1 := h_Y1.bl b9
  have m_Y2 : (mns z0 z1).length ≤ 4194304 := by have := mns_len z0 z1; omega
  have o_Y2 := hid (oks_mns O0 O1)
  generalize e_Y2 : mns z0 z1 = L_Y2 at h_Y2 hc_Y2 m_Y2 o_Y2 ⊢
  have E_Y2 := hid e_Y2
  clear e_Y2 b9 h_Y1 B8
  go_wp2_with fail
  refine (Minus_any _ _ _ _ _ _ _ _ _ h_Y2 (s2.bl B9) hc_Y2 l2 o_Y2.out O2 (by omega) (by omega)).mono ?_
  rintro e v10 ⟨A_Y3, c_Y3, rfl, h_Y3, hc_Y3, b10⟩
  have B10 := Bl.trans B9 b10
  have h_Y1_2 := h_Y1_1.bl b10
  have m_Y3 : (mns L_Y2 z2).length ≤ 10485760 := by have := mns_len L_Y2 z2; omega
  have o_Y3 := hid (oks_mns o_Y2.out O2)
  generalize e_Y3 : mns L_Y2 z2 = L_Y3 at h_Y3 hc_Y3 m_Y3 o_Y3 ⊢
  have E_Y3 := hid e_Y3
  clear e_Y3 b10 h_Y1_1 h_Y2 B9
  go_wp2_with fail
  refine (Same_yes _ _ _ _ _ _ _ _ _ h_Y1_2 h_Y3 (by omega) (by omega) (by rw [← E_Y3.out, ← E_Y2.out, ← E_Y1.out, ← E_U2.out]; exact law2 _ _ _)).mono ?_
  rintro e v11 ⟨rfl, q11⟩
  have B11 := Bl.q B10 q11
  clear q11 h_Y1_2 h_Y3 B10
  go_wp2_with fail
  refine (Inter_any _ _ _ _ _ _ _ _ _ (s0.bl B11) (s1.bl B11) l0 l1 O0 O1 (by omega) (by omega)).mono ?_
  rintro e v12 ⟨A_Z1, c_Z1, rfl, h_Z1, hc_Z1, b12⟩
  have B12 := Bl.trans B11 b12
  have m_Z1 : (int z0 z1).length ≤ 4194304 := by have := int_len z0 z1; omega
  have o_Z1 := hid (oks_int O0 O1)
  generalize e_Z1 : int z0 z1 = L_Z1 at h_Z1 hc_Z1 m_Z1 o_Z1 ⊢
  have E_Z1 := hid e_Z1
  clear e_Z1 b12  B11
  go_wp2_with fail
  refine (Minus_any _ _ _ _ _ _ _ _ _ (s0.bl B12) (s1.bl B12) l0 l1 O0 O1 (by omega) (by omega)).mono ?_
  rintro e v13 ⟨A_Z2, c_Z2, rfl, h_Z2, hc_Z2, b13⟩
  have B13 := Bl.trans B12 b13
  have h_Z1_1 := h_Z1.bl b13
  have m_Z2 : (mns z0 z1).length ≤ 4194304 := by have := mns_len z0 z1; omega
  have o_Z2 := hid (oks_mns O0 O1)
  generalize e_Z2 : mns z0 z1 = L_Z2 at h_Z2 hc_Z2 m_Z2 o_Z2 ⊢
  have E_Z2 := hid e_Z2
  clear e_Z2 b13 h_Z1 B12
  go_wp2_with fail
  refine (Minus_any _ _ _ _ _ _ _ _ _ (s0.bl B13) h_Z2 l0 hc_Z2 O0 o_Z2.out (by omega) (by omega)).mono ?_
  rintro e v14 ⟨A_Z3, c_Z3, rfl, h_Z3, hc_Z3, b14⟩
  have B14 := Bl.trans B13 b14
  have h_Z1_2 := h_Z1_1.bl b14
  have m_Z3 : (mns z0 L_Z2).length ≤ 10485760 := by have := mns_len z0 L_Z2; omega
  have o_Z3 := hid (oks_mns O0 o_Z2.out)
  generalize e_Z3 : mns z0 L_Z2 = L_Z3 at h_Z3 hc_Z3 m_Z3 o_Z3 ⊢
  have E_Z3 := hid e_Z3
  clear e_Z3 b14 h_Z1_1 h_Z2 B13
  go_wp2_with fail
  refine (Same_yes _ _ _ _ _ _ _ _ _ h_Z1_2 h_Z3 (by omega) (by omega) (by rw [← E_Z3.out, ← E_Z2.out, ← E_Z1.out]; exact law3 _ _)).mono ?_
  rintro e v15 ⟨rfl, q15⟩
  have B15 := Bl.q B14 q15
  clear q15 h_Z1_2 h_Z3 B14
  go_wp2_with fail
  refine (awake_any _).mono ?_
  rintro e v16 ⟨rfl, b16⟩
  have B16 := Bl.trans B15 b16
  clear b16  B15
  go_wp2_with fail
  go_ret
  exact ⟨rfl, B16⟩

set_option maxRecDepth 100000 in
theorem lifted (os : Os) (started : os.Started) (H : Type) (enc : TypeId × Value → H) (F : Stop.Interp) :
    ReturnsInHanded {} Try.checked os 8 .any ((Rows.OpenSpec.upto Rows.spanLawsSpec).pre6 enc Try.prog Try.f8 Rows.spanLawsUptoRow.domain false) (((Rows.OpenSpec.upto Rows.spanLawsSpec).at F).post enc Try.prog Try.f8 false true false false) := by
  refine returnsInHanded_of_cond (C := Try.checked) (s := Rows.OpenSpec.upto Rows.spanLawsSpec) (k := Rows.uptoSmall) rfl own started (by kernel_rfl) Try.func8
    (OpenSpec.witness (enc := enc) (C := Try.checked) (s := Rows.OpenSpec.upto Rows.spanLawsSpec) (k := Rows.uptoSmall) rfl false ⟨#[], #[.slice none 0 0, .slice none 0 0, .slice none 0 0], []⟩ 8 (by kernel_rfl) (by kernel_rfl) (by kernel_rfl)
      (x := ([.nil, .nil, .nil], [], [])) (by kernel_rfl) rfl (by kernel_rfl)) ?_
  intro W base args ds gs before hval0 hW _ hk _
  have hval : ∀ (j : Nat) t v, Try.f8.params[j]? = some t → args[j]? = some v → Value.okWide Try.prog W .any base t v := hval0
  have hW' := hW
  obtain ⟨p, q, hA0, hV, rfl, hfz, hnd⟩ := hW
  have hA : DataW.TrodAll enc Try.prog W 0 (fun _ => true) true Try.f8.params.toList args.toList ds p := hA0
  rw [Try.params8] at hA hval
  obtain ⟨v0, vs0, d0, ds0, p0, q0, hargs, rfl, rfl, h0, r0⟩ := trodAll_cons hA
  obtain ⟨v1, vs1, d1, ds1, p1, q1, rfl, rfl, rfl, h1, r1⟩ := trodAll_cons r0
  obtain ⟨v2, vs2, d2, ds2, p2, q2, rfl, rfl, rfl, h2, r2⟩ := trodAll_cons r1
  obtain ⟨rfl, rfl, rfl⟩ := trodAll_nil r2
  obtain rfl : args = #[v0, v1, v2] := by cases args; simp_all
  obtain ⟨rfl, rfl⟩ := trodVars_none hV
  have k0 := h0
  obtain ⟨a0, len0, cap0, z0, rfl, l0, m0, s0, O0, g0, f0, lt0⟩ := open_pairs Try.underlying22 Try.underlying34 (by kernel_rfl) ⟨rfl, rfl⟩ ⟨rfl, rfl⟩ (hval 0 22 v0 rfl rfl) h0
  have k1 := h1
  obtain ⟨a1, len1, cap1, z1, rfl, l1, m1, s1, O1, g1, f1, lt1⟩ := open_pairs Try.underlying22 Try.underlying34 (by kernel_rfl) ⟨rfl, rfl⟩ ⟨rfl, rfl⟩ (hval 1 22 v1 rfl rfl) h1
  have k2 := h2
  obtain ⟨a2, len2, cap2, z2, rfl, l2, m2, s2, O2, g2, f2, lt2⟩ := open_pairs Try.underlying22 Try.underlying34 (by kernel_rfl) ⟨rfl, rfl⟩ ⟨rfl, rfl⟩ (hval 2 22 v2 rfl rfl) h2
  have hbk : cap0 + cap1 + cap2 ≤ 1048576 := by
    have h := of_decide_eq_true hk
    simp only [List.append_nil, List.cons_append, List.nil_append, Rows.uptoBulkAll] at h
    omega
  clear hA0 hval0
  refine (walk a0 len0 cap0 z0 a1 len1 cap1 z1 a2 len2 cap2 z2 W s0 l0 O0 s1 l1 O1 s2 l2 O2 hbk).mono fun e W' ⟨he, bel⟩ => ?_
  subst he
  exact ⟨_, rfl, _, _, _, [], _, [], hW', trodAll_mk1 (shut_bool Try.underlying4 _), (trodAll_cons_mk (Below.trod laidOut (by kernel_rfl) (of_decide_eq_true (by kernel_rfl)) k0 bel lt0) (trodAll_cons_mk (Below.trod laidOut (by kernel_rfl) (of_decide_eq_true (by kernel_rfl)) k1 bel lt1) (trodAll_cons_mk (Below.trod laidOut (by kernel_rfl) (of_decide_eq_true (by kernel_rfl)) k2 bel lt2) trodAll_mk0))), rfl, Below.frame bel _, fun h => by cases h⟩

theorem holds : Rows.SpanLawsUptoSaid :=
  OpenClaim.holds_of_cond 8 Try.f8 rfl rfl rfl rfl rfl rfl rfl ⟨rfl, rfl, rfl, rfl, rfl⟩ rfl rfl rfl rfl rfl (by kernel_rfl) Try.func8 (by kernel_rfl)
    (of_decide_eq_true (by kernel_rfl)) (by unfold Func.isWrapper; first | (rw [if_pos (by decide +kernel)]; kernel_rfl) | (rw [if_neg (by decide +kernel)]; exact ⟨rfl, rfl⟩))
    (fun os started H enc _ F => lifted os started H enc F)
end Go.Proofs.Ytdfnmohgkjonfaa.SpanLaws
