/- IdsetAlgebra returns true for every three lists of integers: the operations obey the algebra of sets. No condition beyond the form's own reach. -/
import Derived.Test.YtofjfnpfcibbeaaIAwake
import Derived.Test.YtofjfnpfcibbeaaIOks
import Derived.Test.YtofjfnpfcibbeaaWArgs
namespace Go.Proofs.Ytofjfnpfcibbeaa.IdsetAlgebra
open Go.ChangeShapes Go.WideShapes Go.ChangeAt Go.RowKit
open Go.ChangeMaps (open_string shut_string)
open Go.Proofs.Ytofjfnpfcibbeaa.Wire
open Go.Proofs.Ytofjfnpfcibbeaa.Idset
set_option linter.unusedVariables false
set_option linter.unusedSimpArgs false

set_option maxRecDepth 100000 in
set_option maxHeartbeats 4000000 in
theorem walk (a0 : Option Addr) (len0 cap0 : Nat) (z0 : List Int) (a1 : Option Addr) (len1 cap1 : Nat) (z1 : List Int) (a2 : Option Addr) (len2 cap2 : Nat) (z2 : List Int) (w : World) (s0 : Sh w w.heap.size .i64 a0 len0 z0) (l0 : len0 ≤ cap0) (w0 : ∀ n ∈ z0, (Lit.int .i64 n).wf = true) (b0 : cap0 * 8 ≤ 140737488351232) (s1 : Sh w w.heap.size .i64 a1 len1 z1) (l1 : len1 ≤ cap1) (w1 : ∀ n ∈ z1, (Lit.int .i64 n).wf = true) (b1 : cap1 * 8 ≤ 140737488351232) (s2 : Sh w w.heap.size .i64 a2 len2 z2) (l2 : len2 ≤ cap2) (w2 : ∀ n ∈ z2, (Lit.int .i64 n).wf = true) (b2 : cap2 * 8 ≤ 140737488351232) :
    Calls Try.prog 7 #[.slice a0 len0 cap0, .slice a1 len1 cap1, .slice a2 len2 cap2] w fun e w' => e = .returned (.bool true) ∧ Bl w w' := by
  have O0 : oks z0 := fun x hx => wf_i64 (w0 x hx)
  have e0 := s0.len
  have O1 : oks z1 := fun x hx => wf_i64 (w1 x hx)
  have e1 := s1.len
  have O2 : oks z2 := fun x hx => wf_i64 (w2 x hx)
  have e2 := s2.len
  by_cases few : len0 ≤ 100 ∧ len1 ≤ 100 ∧ len2 ≤ 100
  · obtain ⟨f0, f1, f2⟩ := few
    have g0 : z0.length ≤ 100 := by omega
    have g1 : z1.length ≤ 100 := by omega
    have g2 : z2.length ≤ 100 := by omega
    have H0 := hid e0
    have H1 := hid e1
    have H2 := hid e2
    clear e0 e1 e2 w0 w1 w2
    go_enter Try.func7, Try.ntmps7
    go_wp2_with fail
    refine (few_yes _ _ _ _ _ _ _ _ _ _ (by omega) (by omega) (by omega)).mono ?_
    rintro e w' ⟨rfl, rfl⟩
    go_wp2_with fail
    refine (Union_any _ _ _ _ _ _ _ _ _ s0 s1 l0 l1 O0 O1 (by omega) (by omega)).mono ?_
    rintro e v1 ⟨A_U, c_U, rfl, h_U, hc_U, b1⟩
    have B1 := Bl.trans (Bl.refl _) b1
    have m_U : (uni z0 z1).length ≤ 200 := by have := uni_len z0 z1; omega
    have o_U := hid (oks_uni O0 O1)
    generalize e_U : uni z0 z1 = L_U at h_U hc_U m_U o_U ⊢
    have E_U := hid e_U
    clear e_U b1
    go_wp2_with fail
    refine (Inter_any _ _ _ _ _ _ _ _ _ (s0.bl B1) (s1.bl B1) l0 l1 O0 O1 (by omega) (by omega)).mono ?_
    rintro e v2 ⟨A_I, c_I, rfl, h_I, hc_I, b2⟩
    have B2 := Bl.trans B1 b2
    have h_U_1 := h_U.bl b2
    have m_I : (int z0 z1).length ≤ 100 := by have := int_len z0 z1; omega
    have o_I := hid (oks_int O0 O1)
    generalize e_I : int z0 z1 = L_I at h_I hc_I m_I o_I ⊢
    have E_I := hid e_I
    clear e_I b2 h_U B1
    go_wp2_with fail
    refine (Union_any _ _ _ _ _ _ _ _ _ (s1.bl B2) (s0.bl B2) l1 l0 O1 O0 (by omega) (by omega)).mono ?_
    rintro e v3 ⟨A_V1, c_V1, rfl, h_V1, hc_V1, b3⟩
    have B3 := Bl.trans B2 b3
    have h_U_2 := h_U_1.bl b3
    have h_I_1 := h_I.bl b3
    have m_V1 : (uni z1 z0).length ≤ 200 := by have := uni_len z1 z0; omega
    have o_V1 := hid (oks_uni O1 O0)
    generalize e_V1 : uni z1 z0 = L_V1 at h_V1 hc_V1 m_V1 o_V1 ⊢
    have E_V1 := hid e_V1
    clear e_V1 b3 h_U_1 h_I B2
    go_wp2_with fail
    refine (Same_yes _ _ _ _ _ _ _ _ _ h_U_2 h_V1 (by omega) (by omega) (by rw [← E_V1.out, ← E_U.out]; exact uni_comm _ _)).mono ?_
    rintro e v4 ⟨rfl, q4⟩
    have B4 := Bl.q B3 q4
    have h_U_3 := h_U_2.bl q4.bl
    have h_I_2 := h_I_1.bl q4.bl
    clear q4 h_U_2 h_I_1 h_V1 B3
    go_wp2_with fail
    refine (Inter_any _ _ _ _ _ _ _ _ _ (s1.bl B4) (s0.bl B4) l1 l0 O1 O0 (by omega) (by omega)).mono ?_
    rintro e v5 ⟨A_V2, c_V2, rfl, h_V2, hc_V2, b5⟩
    have B5 := Bl.trans B4 b5
    have h_U_4 := h_U_3.bl b5
    have h_I_3 := h_I_2.bl b5
    have m_V2 : (int z1 z0).length ≤ 100 := by have := int_len z1 z0; omega
    have o_V2 := hid (oks_int O1 O0)
    generalize e_V2 : int z1 z0 = L_V2 at h_V2 hc_V2 m_V2 o_V2 ⊢
    have E_V2 := hid e_V2
    clear e_V2 b5 h_U_3 h_I_2 B4
    go_wp2_with fail
    refine (Same_yes _ _ _ _ _ _ _ _ _ h_I_3 h_V2 (by omega) (by omega) (by rw [← E_V2.out, ← E_I.out]; exact int_comm _ _)).mono ?_
    rintro e v6 ⟨rfl, q6⟩
    have B6 := Bl.q B5 q6
    have h_U_5 := h_U_4.bl q6.bl
    have h_I_4 := h_I_3.bl q6.bl
    clear q6 h_U_4 h_I_3 h_V2 B5
    go_wp2_with fail
    refine (Union_any _ _ _ _ _ _ _ _ _ h_U_5 (s2.bl B6) hc_U l2 o_U.out O2 (by omega) (by omega)).mono ?_
    rintro e v7 ⟨A_X1, c_X1, rfl, h_X1, hc_X1, b7⟩
    have B7 := Bl.trans B6 b7
    have h_U_6 := h_U_5.bl b7
    have h_I_5 := h_I_4.bl b7
    have m_X1 : (uni L_U z2).length ≤ 300 := by have := uni_len L_U z2; omega
    have o_X1 := hid (oks_uni o_U.out O2)
    generalize e_X1 : uni L_U z2 = L_X1 at h_X1 hc_X1 m_X1 o_X1 ⊢
    have E_X1 := hid e_X1
    clear e_X1 b7 h_U_5 h_I_4 B6
    go_wp2_with fail
    refine (Union_any _ _ _ _ _ _ _ _ _ (s1.bl B7) (s2.bl B7) l1 l2 O1 O2 (by omega) (by omega)).mono ?_
    rintro e v8 ⟨A_X2, c_X2, rfl, h_X2, hc_X2, b8⟩
    have B8 := Bl.trans B7 b8
    have h_U_7 := h_U_6.bl b8
    have h_I_6 := h_I_5.bl b8
    have h_X1_1 := h_X1.bl b8
    have m_X2 : (uni z1 z2).length ≤ 200 := by have := uni_len z1 z2; omega
    have o_X2 := hid (oks_uni O1 O2)
    generalize e_X2 : uni z1 z2 = L_X2 at h_X2 hc_X2 m_X2 o_X2 ⊢
    have E_X2 := hid e_X2
    clear e_X2 b8 h_U_6 h_I_5 h_X1 B7
    go_wp2_with fail
    refine (Union_any _ _ _ _ _ _ _ _ _ (s0.bl B8) h_X2 l0 hc_X2 O0 o_X2.out (by omega) (by omega)).mono ?_
    rintro e v9 ⟨A_X3, c_X3, rfl, h_X3, hc_X3, b9⟩
    have B9 := Bl.trans B8 b9
    have h_U_8 := h_U_7.bl b9
    have h_I_7 := h_I_6.bl b9
    have h_X1_2 := h_X1_1.bl b9
    have m_X3 : (uni z0 L_X2).length ≤ 300 := by have := uni_len z0 L_X2; omega
    have o_X3 := hid (oks_uni O0 o_X2.out)
    generalize e_X3 : uni z0 L_X2 = L_X3 at h_X3 hc_X3 m_X3 o_X3 ⊢
    have E_X3 := hid e_X3
    clear e_X3 b9 h_U_7 h_I_6 h_X1_1 h_X2 B8
    go_wp2_with fail
    refine (Same_yes _ _ _ _ _ _ _ _ _ h_X1_2 h_X3 (by omega) (by omega) (by rw [← E_X3.out, ← E_X2.out, ← E_X1.out, ← E_U.out]; exact uni_assoc _ _ _)).mono ?_
    rintro e v10 ⟨rfl, q10⟩
    have B10 := Bl.q B9 q10
    have h_U_9 := h_U_8.bl q10.bl
    have h_I_8 := h_I_7.bl q10.bl
    clear q10 h_U_8 h_I_7 h_X1_2 h_X3 B9
    go_wp2_with fail
    refine (Inter_any _ _ _ _ _ _ _ _ _ h_I_8 (s2.bl B10) hc_I l2 o_I.out O2 (by omega) (by omega)).mono ?_
    rintro e v11 ⟨A_Y1, c_Y1, rfl, h_Y1, hc_Y1, b11⟩
    have B11 := Bl.trans B10 b11
    have h_U_10 := h_U_9.bl b11
    have h_I_9 := h_I_8.bl b11
    have m_Y1 : (int L_I z2).length ≤ 100 := by have := int_len L_I z2; omega
    have o_Y1 := hid (oks_int o_I.out O2)
    generalize e_Y1 : int L_I z2 = L_Y1 at h_Y1 hc_Y1 m_Y1 o_Y1 ⊢
    have E_Y1 := hid e_Y1
    clear e_Y1 b11 h_U_9 h_I_8 B10
    go_wp2_with fail
    refine (Inter_any _ _ _ _ _ _ _ _ _ (s1.bl B11) (s2.bl B11) l1 l2 O1 O2 (by omega) (by omega)).mono ?_
    rintro e v12 ⟨A_Y2, c_Y2, rfl, h_Y2, hc_Y2, b12⟩
    have B12 := Bl.trans B11 b12
    have h_U_11 := h_U_10.bl b12
    have h_I_10 := h_I_9.bl b12
    have h_Y1_1 := h_Y1.bl b12
    have m_Y2 : (int z1 z2).length ≤ 100 := by have := int_len z1 z2; omega
    have o_Y2 := hid (oks_int O1 O2)
    generalize e_Y2 : int z1 z2 = L_Y2 at h_Y2 hc_Y2 m_Y2 o_Y2 ⊢
    have E_Y2 := hid e_Y2
    clear e_Y2 b12 h_U_10 h_I_9 h_Y1 B11
    go_wp2_with fail
    refine (Inter_any _ _ _ _ _ _ _ _ _ (s0.bl B12) h_Y2 l0 hc_Y2 O0 o_Y2.out (by omega) (by omega)).mono ?_
    rintro e v13 ⟨A_Y3, c_Y3, rfl, h_Y3, hc_Y3, b13⟩
    have B13 := Bl.trans B12 b13
    have h_U_12 := h_U_11.bl b13
    have h_I_11 := h_I_10.bl b13
    have h_Y1_2 := h_Y1_1.bl b13
    have m_Y3 : (int z0 L_Y2).length ≤ 100 := by have := int_len z0 L_Y2; omega
    have o_Y3 := hid (oks_int O0 o_Y2.out)
    generalize e_Y3 : int z0 L_Y2 = L_Y3 at h_Y3 hc_Y3 m_Y3 o_Y3 ⊢
    have E_Y3 := hid e_Y3
    clear e_Y3 b13 h_U_11 h_I_10 h_Y1_1 h_Y2 B12
    go_wp2_with fail
    refine (Same_yes _ _ _ _ _ _ _ _ _ h_Y1_2 h_Y3 (by omega) (by omega) (by rw [← E_Y3.out, ← E_Y2.out, ← E_Y1.out, ← E_I.out]; exact int_assoc _ _ _)).mono ?_
    rintro e v14 ⟨rfl, q14⟩
    have B14 := Bl.q B13 q14
    have h_U_13 := h_U_12.bl q14.bl
    have h_I_12 := h_I_11.bl q14.bl
    clear q14 h_U_12 h_I_11 h_Y1_2 h_Y3 B13
    go_wp2_with fail
    refine (Inter_any _ _ _ _ _ _ _ _ _ h_U_13 (s2.bl B14) hc_U l2 o_U.out O2 (by omega) (by omega)).mono ?_
    rintro e v15 ⟨A_P1, c_P1, rfl, h_P1, hc_P1, b15⟩
    have B15 := Bl.trans B14 b15
    have h_U_14 := h_U_13.bl b15
    have h_I_13 := h_I_12.bl b15
    have m_P1 : (int L_U z2).length ≤ 200 := by have := int_len L_U z2; omega
    have o_P1 := hid (oks_int o_U.out O2)
    generalize e_P1 : int L_U z2 = L_P1 at h_P1 hc_P1 m_P1 o_P1 ⊢
    have E_P1 := hid e_P1
    clear e_P1 b15 h_U_13 h_I_12 B14
    go_wp2_with fail
    refine (Inter_any _ _ _ _ _ _ _ _ _ (s0.bl B15) (s2.bl B15) l0 l2 O0 O2 (by omega) (by omega)).mono ?_
    rintro e v16 ⟨A_P2, c_P2, rfl, h_P2, hc_P2, b16⟩
    have B16 := Bl.trans B15 b16
    have h_U_15 := h_U_14.bl b16
    have h_I_14 := h_I_13.bl b16
    have h_P1_1 := h_P1.bl b16
    have m_P2 : (int z0 z2).length ≤ 100 := by have := int_len z0 z2; omega
    have o_P2 := hid (oks_int O0 O2)
    generalize e_P2 : int z0 z2 = L_P2 at h_P2 hc_P2 m_P2 o_P2 ⊢
    have E_P2 := hid e_P2
    clear e_P2 b16 h_U_14 h_I_13 h_P1 B15
    go_wp2_with fail
    refine (Inter_any _ _ _ _ _ _ _ _ _ (s1.bl B16) (s2.bl B16) l1 l2 O1 O2 (by omega) (by omega)).mono ?_
    rintro e v17 ⟨A_P3, c_P3, rfl, h_P3, hc_P3, b17⟩
    have B17 := Bl.trans B16 b17
    have h_U_16 := h_U_15.bl b17
    have h_I_15 := h_I_14.bl b17
    have h_P1_2 := h_P1_1.bl b17
    have h_P2_1 := h_P2.bl b17
    have m_P3 : (int z1 z2).length ≤ 100 := by have := int_len z1 z2; omega
    have o_P3 := hid (oks_int O1 O2)
    generalize e_P3 : int z1 z2 = L_P3 at h_P3 hc_P3 m_P3 o_P3 ⊢
    have E_P3 := hid e_P3
    clear e_P3 b17 h_U_15 h_I_14 h_P1_1 h_P2 B16
    go_wp2_with fail
    refine (Union_any _ _ _ _ _ _ _ _ _ h_P2_1 h_P3 hc_P2 hc_P3 o_P2.out o_P3.out (by omega) (by omega)).mono ?_
    rintro e v18 ⟨A_P4, c_P4, rfl, h_P4, hc_P4, b18⟩
    have B18 := Bl.trans B17 b18
    have h_U_17 := h_U_16.bl b18
    have h_I_16 := h_I_15.bl b18
    have h_P1_3 := h_P1_2.bl b18
    have m_P4 : (uni L_P2 L_P3).length ≤ 200 := by have := uni_len L_P2 L_P3; omega
    have o_P4 := hid (oks_uni o_P2.out o_P3.out)
    generalize e_P4 : uni L_P2 L_P3 = L_P4 at h_P4 hc_P4 m_P4 o_P4 ⊢
    have E_P4 := hid e_P4
    clear e_P4 b18 h_U_16 h_I_15 h_P1_2 h_P2_1 h_P3 B17
    go_wp2_with fail
    refine (Same_yes _ _ _ _ _ _ _ _ _ h_P1_3 h_P4 (by omega) (by omega) (by rw [← E_P4.out, ← E_P3.out, ← E_P2.out, ← E_P1.out, ← E_U.out]; exact int_uni _ _ _)).mono ?_
    rintro e v19 ⟨rfl, q19⟩
    have B19 := Bl.q B18 q19
    have h_U_18 := h_U_17.bl q19.bl
    have h_I_17 := h_I_16.bl q19.bl
    clear q19 h_U_17 h_I_16 h_P1_3 h_P4 B18
    go_wp2_with fail
    refine (Union_any _ _ _ _ _ _ _ _ _ h_I_17 (s2.bl B19) hc_I l2 o_I.out O2 (by omega) (by omega)).mono ?_
    rintro e v20 ⟨A_Q1, c_Q1, rfl, h_Q1, hc_Q1, b20⟩
    have B20 := Bl.trans B19 b20
    have h_U_19 := h_U_18.bl b20
    have h_I_18 := h_I_17.bl b20
    have m_Q1 : (uni L_I z2).length ≤ 200 := by have := uni_len L_I z2; omega
    have o_Q1 := hid (oks_uni o_I.out O2)
    generalize e_Q1 : uni L_I z2 = L_Q1 at h_Q1 hc_Q1 m_Q1 o_Q1 ⊢
    have E_Q1 := hid e_Q1
    clear e_Q1 b20 h_U_18 h_I_17 B19
    go_wp2_with fail
    refine (Union_any _ _ _ _ _ _ _ _ _ (s0.bl B20) (s2.bl B20) l0 l2 O0 O2 (by omega) (by omega)).mono ?_
    rintro e v21 ⟨A_Q2, c_Q2, rfl, h_Q2, hc_Q2, b21⟩
    have B21 := Bl.trans B20 b21
    have h_U_20 := h_U_19.bl b21
    have h_I_19 := h_I_18.bl b21
    have h_Q1_1 := h_Q1.bl b21
    have m_Q2 : (uni z0 z2).length ≤ 200 := by have := uni_len z0 z2; omega
    have o_Q2 := hid (oks_uni O0 O2)
    generalize e_Q2 : uni z0 z2 = L_Q2 at h_Q2 hc_Q2 m_Q2 o_Q2 ⊢
    have E_Q2 := hid e_Q2
    clear e_Q2 b21 h_U_19 h_I_18 h_Q1 B20
    go_wp2_with fail
    refine (Union_any _ _ _ _ _ _ _ _ _ (s1.bl B21) (s2.bl B21) l1 l2 O1 O2 (by omega) (by omega)).mono ?_
    rintro e v22 ⟨A_Q3, c_Q3, rfl, h_Q3, hc_Q3, b22⟩
    have B22 := Bl.trans B21 b22
    have h_U_21 := h_U_20.bl b22
    have h_I_20 := h_I_19.bl b22
    have h_Q1_2 := h_Q1_1.bl b22
    have h_Q2_1 := h_Q2.bl b22
    have m_Q3 : (uni z1 z2).length ≤ 200 := by have := uni_len z1 z2; omega
    have o_Q3 := hid (oks_uni O1 O2)
    generalize e_Q3 : uni z1 z2 = L_Q3 at h_Q3 hc_Q3 m_Q3 o_Q3 ⊢
    have E_Q3 := hid e_Q3
    clear e_Q3 b22 h_U_20 h_I_19 h_Q1_1 h_Q2 B21
    go_wp2_with fail
    refine (Inter_any _ _ _ _ _ _ _ _ _ h_Q2_1 h_Q3 hc_Q2 hc_Q3 o_Q2.out o_Q3.out (by omega) (by omega)).mono ?_
    rintro e v23 ⟨A_Q4, c_Q4, rfl, h_Q4, hc_Q4, b23⟩
    have B23 := Bl.trans B22 b23
    have h_U_22 := h_U_21.bl b23
    have h_I_21 := h_I_20.bl b23
    have h_Q1_3 := h_Q1_2.bl b23
    have m_Q4 : (int L_Q2 L_Q3).length ≤ 200 := by have := int_len L_Q2 L_Q3; omega
    have o_Q4 := hid (oks_int o_Q2.out o_Q3.out)
    generalize e_Q4 : int L_Q2 L_Q3 = L_Q4 at h_Q4 hc_Q4 m_Q4 o_Q4 ⊢
    have E_Q4 := hid e_Q4
    clear e_Q4 b23 h_U_21 h_I_20 h_Q1_2 h_Q2_1 h_Q3 B22
    go_wp2_with fail
    refine (Same_yes _ _ _ _ _ _ _ _ _ h_Q1_3 h_Q4 (by omega) (by omega) (by rw [← E_Q4.out, ← E_Q3.out, ← E_Q2.out, ← E_Q1.out, ← E_I.out]; exact uni_int _ _ _)).mono ?_
    rintro e v24 ⟨rfl, q24⟩
    have B24 := Bl.q B23 q24
    have h_U_23 := h_U_22.bl q24.bl
    have h_I_22 := h_I_21.bl q24.bl
    clear q24 h_U_22 h_I_21 h_Q1_3 h_Q4 B23
    go_wp2_with fail
    refine (awake_any _).mono ?_
    rintro e v25 ⟨rfl, b25⟩
    have B25 := Bl.trans B24 b25
    have h_U_24 := h_U_23.bl b25
    have h_I_23 := h_I_22.bl b25
    clear b25 h_U_23 h_I_22 B24
    go_wp2_with fail
    refine (Union_any _ _ _ _ _ _ _ _ _ (s0.bl B25) h_I_23 l0 hc_I O0 o_I.out (by omega) (by omega)).mono ?_
    rintro e v26 ⟨A_R1, c_R1, rfl, h_R1, hc_R1, b26⟩
    have B26 := Bl.trans B25 b26
    have h_U_25 := h_U_24.bl b26
    have m_R1 : (uni z0 L_I).length ≤ 200 := by have := uni_len z0 L_I; omega
    have o_R1 := hid (oks_uni O0 o_I.out)
    generalize e_R1 : uni z0 L_I = L_R1 at h_R1 hc_R1 m_R1 o_R1 ⊢
    have E_R1 := hid e_R1
    clear e_R1 b26 h_U_24 h_I_23 B25
    go_wp2_with fail
    refine (Normal_any _ _ _ _ _ (s0.bl B26) l0 O0 (by omega)).mono ?_
    rintro e v27 ⟨A_R2, c_R2, rfl, h_R2, hc_R2, b27⟩
    have B27 := Bl.trans B26 b27
    have h_U_26 := h_U_25.bl b27
    have h_R1_1 := h_R1.bl b27
    have m_R2 : (nrm z0).length ≤ 100 := by have := nrm_len z0; omega
    have o_R2 := hid (oks_nrm O0)
    generalize e_R2 : nrm z0 = L_R2 at h_R2 hc_R2 m_R2 o_R2 ⊢
    have E_R2 := hid e_R2
    clear e_R2 b27 h_U_25 h_R1 B26
    go_wp2_with fail
    refine (Same_yes _ _ _ _ _ _ _ _ _ h_R1_1 h_R2 (by omega) (by omega) (by rw [← E_R2.out, ← E_R1.out, ← E_I.out]; exact uni_absorb _ _)).mono ?_
    rintro e v28 ⟨rfl, q28⟩
    have B28 := Bl.q B27 q28
    have h_U_27 := h_U_26.bl q28.bl
    clear q28 h_U_26 h_R1_1 h_R2 B27
    go_wp2_with fail
    refine (Inter_any _ _ _ _ _ _ _ _ _ (s0.bl B28) h_U_27 l0 hc_U O0 o_U.out (by omega) (by omega)).mono ?_
    rintro e v29 ⟨A_S1, c_S1, rfl, h_S1, hc_S1, b29⟩
    have B29 := Bl.trans B28 b29
    have m_S1 : (int z0 L_U).length ≤ 100 := by have := int_len z0 L_U; omega
    have o_S1 := hid (oks_int O0 o_U.out)
    generalize e_S1 : int z0 L_U = L_S1 at h_S1 hc_S1 m_S1 o_S1 ⊢
    have E_S1 := hid e_S1
    clear e_S1 b29 h_U_27 B28
    go_wp2_with fail
    refine (Normal_any _ _ _ _ _ (s0.bl B29) l0 O0 (by omega)).mono ?_
    rintro e v30 ⟨A_S2, c_S2, rfl, h_S2, hc_S2, b30⟩
    have B30 := Bl.trans B29 b30
    have h_S1_1 := h_S1.bl b30
    have m_S2 : (nrm z0).length ≤ 100 := by have := nrm_len z0; omega
    have o_S2 := hid (oks_nrm O0)
    generalize e_S2 : nrm z0 = L_S2 at h_S2 hc_S2 m_S2 o_S2 ⊢
    have E_S2 := hid e_S2
    clear e_S2 b30 h_S1 B29
    go_wp2_with fail
    refine (Same_yes _ _ _ _ _ _ _ _ _ h_S1_1 h_S2 (by omega) (by omega) (by rw [← E_S2.out, ← E_S1.out, ← E_U.out]; exact int_absorb _ _)).mono ?_
    rintro e v31 ⟨rfl, q31⟩
    have B31 := Bl.q B30 q31
    clear q31 h_S1_1 h_S2 B30
    go_wp2_with fail
    go_ret
    exact ⟨rfl, B31⟩
  · clear e0 O0 e1 O1 e2 O2
    go_enter Try.func7, Try.ntmps7
    go_wp2_with fail
    refine (few_no _ _ _ _ _ _ _ _ _ _ (by omega)).mono ?_
    rintro e w' ⟨rfl, rfl⟩
    go_wp2_with fail
    refine (awake_any _).mono ?_
    rintro e v1 ⟨rfl, b1⟩
    have B1 := Bl.trans (Bl.refl _) b1
    clear b1
    go_wp2_with fail
    go_ret
    exact ⟨rfl, B1⟩

set_option maxRecDepth 100000 in
theorem lifted (os : Os) (started : os.Started) (H : Type) (enc : TypeId × Value → H) :
    ReturnsInHanded {} Try.checked os 7 .any (Rows.idsetAlgebraSpec.pre6 enc Try.prog Try.f7 Rows.idsetAlgebraRow.domain false) (Rows.idsetAlgebraSpec.post enc Try.prog Try.f7 false true false false) := by
  refine returnsInHanded_of_change_sized (C := Try.checked) own started (by kernel_rfl) Try.func7
    (ChangeSpec.witness6 (enc := enc) (C := Try.checked) false ⟨#[], #[.slice none 0 0, .slice none 0 0, .slice none 0 0], []⟩ 8 (by kernel_rfl) (by kernel_rfl) (by kernel_rfl) (by kernel_rfl)) ?_
  intro W base args ds gs before hval0 hW _ hsz0 _
  have hsz : (DataW.weightsEach Try.prog (Try.f7.params.toList ++ Rows.idsetAlgebraSpec.plain.varTypes Try.prog) (ds ++ gs)).all (· ≤ reachBytes) = true := hsz0
  have hval : ∀ (j : Nat) t v, Try.f7.params[j]? = some t → args[j]? = some v → Value.okWide Try.prog W .any base t v := hval0
  have hW' := hW
  obtain ⟨p, q, hA0, hV, rfl, hfz, hnd⟩ := hW
  have hA : DataW.TrodAll enc Try.prog W 0 (fun _ => true) true Try.f7.params.toList args.toList ds p := hA0
  rw [Try.params7] at hA hval hsz
  obtain ⟨v0, vs0, d0, ds0, p0, q0, hargs, rfl, rfl, h0, r0⟩ := trodAll_cons hA
  obtain ⟨v1, vs1, d1, ds1, p1, q1, rfl, rfl, rfl, h1, r1⟩ := trodAll_cons r0
  obtain ⟨v2, vs2, d2, ds2, p2, q2, rfl, rfl, rfl, h2, r2⟩ := trodAll_cons r1
  obtain ⟨rfl, rfl, rfl⟩ := trodAll_nil r2
  obtain rfl : args = #[v0, v1, v2] := by cases args; simp_all
  obtain ⟨rfl, rfl⟩ := trodVars_none hV
  have k0 := h0
  obtain ⟨a0, len0, cap0, z0, rfl, l0, m0, n0, s0, w0, f0, lt0⟩ := open_row Try.underlying22 Try.underlying3 (by kernel_rfl) (hval 0 22 v0 rfl rfl) h0
  have b0 := reach_row hsz (j := 0) (t := 22) (e := 3) 8 rfl rfl Try.underlying22 (by kernel_rfl) n0 l0 f0
  have k1 := h1
  obtain ⟨a1, len1, cap1, z1, rfl, l1, m1, n1, s1, w1, f1, lt1⟩ := open_row Try.underlying22 Try.underlying3 (by kernel_rfl) (hval 1 22 v1 rfl rfl) h1
  have b1 := reach_row hsz (j := 1) (t := 22) (e := 3) 8 rfl rfl Try.underlying22 (by kernel_rfl) n1 l1 f1
  have k2 := h2
  obtain ⟨a2, len2, cap2, z2, rfl, l2, m2, n2, s2, w2, f2, lt2⟩ := open_row Try.underlying22 Try.underlying3 (by kernel_rfl) (hval 2 22 v2 rfl rfl) h2
  have b2 := reach_row hsz (j := 2) (t := 22) (e := 3) 8 rfl rfl Try.underlying22 (by kernel_rfl) n2 l2 f2
  clear hA0 hval0
  refine (walk a0 len0 cap0 (z0.take len0) a1 len1 cap1 (z1.take len1) a2 len2 cap2 (z2.take len2) W s0 l0 (fun n hn => w0 n (List.mem_of_mem_take hn)) b0 s1 l1 (fun n hn => w1 n (List.mem_of_mem_take hn)) b1 s2 l2 (fun n hn => w2 n (List.mem_of_mem_take hn)) b2).mono fun e W' ⟨he, bel⟩ => ?_
  subst he
  exact ⟨_, rfl, _, _, _, [], _, [], hW', trodAll_mk1 (shut_bool Try.underlying4 _), (trodAll_cons_mk (Below.trod laidOut (by kernel_rfl) (of_decide_eq_true (by kernel_rfl)) k0 bel lt0) (trodAll_cons_mk (Below.trod laidOut (by kernel_rfl) (of_decide_eq_true (by kernel_rfl)) k1 bel lt1) (trodAll_cons_mk (Below.trod laidOut (by kernel_rfl) (of_decide_eq_true (by kernel_rfl)) k2 bel lt2) trodAll_mk0))), rfl, Below.frame bel _, fun h => by cases h⟩

theorem holds : Rows.IdsetAlgebraSaid :=
  OpenClaim.holds_of_wide 7 Try.f7 rfl rfl rfl rfl rfl rfl rfl ⟨rfl, rfl, rfl, rfl, rfl⟩ rfl rfl rfl rfl rfl (by kernel_rfl) Try.func7 (by kernel_rfl)
    (of_decide_eq_true (by kernel_rfl)) (by unfold Func.isWrapper; first | (rw [if_pos (by decide +kernel)]; kernel_rfl) | (rw [if_neg (by decide +kernel)]; exact ⟨rfl, rfl⟩))
    (fun os started H enc _ => lifted os started H enc)
end Go.Proofs.Ytofjfnpfcibbeaa.IdsetAlgebra
