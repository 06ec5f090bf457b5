/- SpanValid returns true for every two lists of ranges that hold together at most 1048576 values: the results are valid lists. One condition: that bound. -/
import Derived.Test.YtdfnmohgkjonfaaSAwake
import Derived.ChangeOld
namespace Go.Proofs.Ytdfnmohgkjonfaa.SpanValid
open Go.ChangeShapes Go.WideShapes Go.ChangeAt Go.RowKit
open Go.ChangeMaps (open_string shut_string)
open Go.Proofs.Ytdfnmohgkjonfaa.Wire
open Go.Proofs.Ytdfnmohgkjonfaa.Span
set_option linter.unusedVariables false
set_option linter.unusedSimpArgs false

set_option maxRecDepth 100000 in
set_option maxHeartbeats 8000000 in
theorem walk (a0 : Option Addr) (len0 cap0 : Nat) (z0 : List Pr) (a1 : Option Addr) (len1 cap1 : Nat) (z1 : List Pr) (w : World) (s0 : ShP w w.heap.size a0 len0 z0) (l0 : len0 ≤ cap0) (O0 : okp z0) (s1 : ShP w w.heap.size a1 len1 z1) (l1 : len1 ≤ cap1) (O1 : okp z1) (hbk : cap0 + cap1 ≤ 1048576) :
    Calls Try.prog 6 #[.slice a0 len0 cap0, .slice a1 len1 cap1] w fun e w' => e = .returned (.bool true) ∧ Bl w w' := by
  have e0 := s0.len
  have e1 := s1.len
  have f0 : len0 ≤ 1048576 := by omega
  have g0 : z0.length ≤ 1048576 := by omega
  have f1 : len1 ≤ 1048576 := by omega
  have g1 : z1.length ≤ 1048576 := by omega
  have H0 := hid e0
  have H1 := hid e1
  clear e0 e1
  cases ev : vdb z0
  · have xv := hid ev
    clear ev
    go_enter Try.func6, Try.ntmps6
    go_wp2_with fail
    refine (Normal_any _ _ _ _ _ s0 l0 O0 (by omega)).mono ?_
    rintro e v1 ⟨A_N, c_N, rfl, h_N, hc_N, b1⟩
    have B1 := Bl.trans (Bl.refl _) b1
    have m_N : (nor z0).length ≤ 2097152 := by have := nor_len z0; omega
    have o_N := hid (oks_nor O0)
    generalize e_N : nor z0 = L_N at h_N hc_N m_N o_N ⊢
    have E_N := hid e_N
    clear e_N b1
    go_wp2_with fail
    refine (Union_any _ _ _ _ _ _ _ _ _ (s0.bl B1) (s1.bl B1) l0 l1 O0 O1 (by omega) (by omega)).mono ?_
    rintro e v2 ⟨A_U, c_U, rfl, h_U, hc_U, b2⟩
    have B2 := Bl.trans B1 b2
    have h_N_1 := h_N.bl b2
    have m_U : (uni z0 z1).length ≤ 4194304 := by have := uni_len z0 z1; omega
    have o_U := hid (oks_uni O0 O1)
    generalize e_U : uni z0 z1 = L_U at h_U hc_U m_U o_U ⊢
    have E_U := hid e_U
    clear e_U b2 h_N B1
    go_wp2_with fail
    refine (Inter_any _ _ _ _ _ _ _ _ _ (s0.bl B2) (s1.bl B2) l0 l1 O0 O1 (by omega) (by omega)).mono ?_
    rintro e v3 ⟨A_I, c_I, rfl, h_I, hc_I, b3⟩
    have B3 := Bl.trans B2 b3
    have h_N_2 := h_N_1.bl b3
    have h_U_1 := h_U.bl b3
    have m_I : (int z0 z1).length ≤ 4194304 := by have := int_len z0 z1; omega
    have o_I := hid (oks_int O0 O1)
    generalize e_I : int z0 z1 = L_I at h_I hc_I m_I o_I ⊢
    have E_I := hid e_I
    clear e_I b3 h_N_1 h_U B2
    go_wp2_with fail
    refine (Minus_any _ _ _ _ _ _ _ _ _ (s0.bl B3) (s1.bl B3) l0 l1 O0 O1 (by omega) (by omega)).mono ?_
    rintro e v4 ⟨A_M, c_M, rfl, h_M, hc_M, b4⟩
    have B4 := Bl.trans B3 b4
    have h_N_3 := h_N_2.bl b4
    have h_U_2 := h_U_1.bl b4
    have h_I_1 := h_I.bl b4
    have m_M : (mns z0 z1).length ≤ 4194304 := by have := mns_len z0 z1; omega
    have o_M := hid (oks_mns O0 O1)
    generalize e_M : mns z0 z1 = L_M at h_M hc_M m_M o_M ⊢
    have E_M := hid e_M
    clear e_M b4 h_N_2 h_U_1 h_I B3
    have p0 := valid_any _ _ c_N _ _ _ h_N_3 (by omega)
    rw [show vdb L_N = true by rw [← E_N.out]; exact vdb_yes (nor_vd _)] at p0
    have P0 := hid p0
    clear p0
    go_wp2_with fail
    refine (P0.out).mono ?_
    rintro e v5 ⟨rfl, b5⟩
    have B5 := Bl.q B4 b5
    have h_N_4 := h_N_3.bl b5.bl
    have h_U_3 := h_U_2.bl b5.bl
    have h_I_2 := h_I_1.bl b5.bl
    have h_M_1 := h_M.bl b5.bl
    clear b5 h_N_3 h_U_2 h_I_1 h_M B4
    have p1 := valid_any _ _ c_U _ _ _ h_U_3 (by omega)
    rw [show vdb L_U = true by rw [← E_U.out]; exact vdb_yes (uni_vd _ _)] at p1
    have P1 := hid p1
    clear p1
    go_wp2_with fail
    refine (P1.out).mono ?_
    rintro e v6 ⟨rfl, b6⟩
    have B6 := Bl.q B5 b6
    have h_N_5 := h_N_4.bl b6.bl
    have h_U_4 := h_U_3.bl b6.bl
    have h_I_3 := h_I_2.bl b6.bl
    have h_M_2 := h_M_1.bl b6.bl
    clear b6 h_N_4 h_U_3 h_I_2 h_M_1 B5
    have p2 := valid_any _ _ c_I _ _ _ h_I_3 (by omega)
    rw [show vdb L_I = true by rw [← E_I.out]; exact vdb_yes (int_vd _ _)] at p2
    have P2 := hid p2
    clear p2
    go_wp2_with fail
    refine (P2.out).mono ?_
    rintro e v7 ⟨rfl, b7⟩
    have B7 := Bl.q B6 b7
    have h_N_6 := h_N_5.bl b7.bl
    have h_U_5 := h_U_4.bl b7.bl
    have h_M_3 := h_M_2.bl b7.bl
    clear b7 h_N_5 h_U_4 h_I_3 h_M_2 B6
    have p3 := valid_any _ _ c_M _ _ _ h_M_3 (by omega)
    rw [show vdb L_M = true by rw [← E_M.out]; exact vdb_yes (mns_vd _ _)] at p3
    have P3 := hid p3
    clear p3
    go_wp2_with fail
    refine (P3.out).mono ?_
    rintro e v8 ⟨rfl, b8⟩
    have B8 := Bl.q B7 b8
    have h_N_7 := h_N_6.bl b8.bl
    have h_U_6 := h_U_5.bl b8.bl
    clear b8 h_N_6 h_U_5 h_M_3 B7
    have p4 := Valid_any _ _ _ _ _ (s0.bl B8) l0 O0 (by omega)
    rw [xv.out] at p4
    have P4 := hid p4
    clear p4
    go_wp2_with fail
    refine (P4.out).mono ?_
    rintro e v9 ⟨rfl, b9⟩
    have B9 := Bl.trans B8 b9
    have h_N_8 := h_N_7.bl b9
    have h_U_7 := h_U_6.bl b9
    clear b9 h_N_7 h_U_6 B8
    have p5 := valid_any _ _ cap0 _ _ _ (s0.bl B9) (by omega)
    rw [xv.out] at p5
    have P5 := hid p5
    clear p5
    go_wp2_with fail
    refine (P5.out).mono ?_
    rintro e v10 ⟨rfl, b10⟩
    have B10 := Bl.q B9 b10
    have h_N_9 := h_N_8.bl b10.bl
    have h_U_8 := h_U_7.bl b10.bl
    clear b10 h_N_8 h_U_7 B9
    have p6 := Valid_any _ _ _ _ _ h_U_8 hc_U o_U.out (by omega)
    rw [show vdb L_U = true by rw [← E_U.out]; exact vdb_yes (uni_vd _ _)] at p6
    have P6 := hid p6
    clear p6
    go_wp2_with fail
    refine (P6.out).mono ?_
    rintro e v11 ⟨rfl, b11⟩
    have B11 := Bl.trans B10 b11
    have h_N_10 := h_N_9.bl b11
    clear b11 h_N_9 h_U_8 B10
    go_wp2_with fail
    refine (Normal_any _ _ _ _ _ h_N_10 hc_N o_N.out (by omega)).mono ?_
    rintro e v12 ⟨A_N2, c_N2, rfl, h_N2, hc_N2, b12⟩
    have B12 := Bl.trans B11 b12
    have h_N_11 := h_N_10.bl b12
    have m_N2 : (nor L_N).length ≤ 4194304 := by have := nor_len L_N; omega
    have o_N2 := hid (oks_nor o_N.out)
    generalize e_N2 : nor L_N = L_N2 at h_N2 hc_N2 m_N2 o_N2 ⊢
    have E_N2 := hid e_N2
    clear e_N2 b12 h_N_10 B11
    go_wp2_with fail
    refine (Same_yes _ _ _ _ _ _ _ _ _ h_N2 h_N_11 (by omega) (by omega) (by rw [← E_N2.out, ← E_N.out]; exact nor_set (nor_vd _))).mono ?_
    rintro e v13 ⟨rfl, q13⟩
    have B13 := Bl.q B12 q13
    have h_N_12 := h_N_11.bl q13.bl
    clear q13 h_N_11 h_N2 B12
    have p7 := valid_any _ _ cap0 _ _ _ (s0.bl B13) (by omega)
    rw [xv.out] at p7
    have P7 := hid p7
    clear p7
    go_wp2_with fail
    refine (P7.out).mono ?_
    rintro e v14 ⟨rfl, b14⟩
    have B14 := Bl.q B13 b14
    have h_N_13 := h_N_12.bl b14.bl
    clear b14 h_N_12 B13
    go_wp2_with fail
    refine (Union_any _ _ _ _ _ _ _ _ _ (s0.bl B14) ((ShP.nil w w.heap.size none).bl B14) l0 (Nat.le_refl 0) O0 okp_nil (by omega) (by omega)).mono ?_
    rintro e v15 ⟨A_K, c_K, rfl, h_K, hc_K, b15⟩
    have B15 := Bl.trans B14 b15
    have h_N_14 := h_N_13.bl b15
    have m_K : (uni z0 []).length ≤ 4194304 := by have := uni_len z0 []; rw [List.length_nil] at this; omega
    have o_K := hid (oks_uni O0 okp_nil)
    generalize e_K : uni z0 [] = L_K at h_K hc_K m_K o_K ⊢
    have E_K := hid e_K
    clear e_K b15 h_N_13 B14
    go_wp2_with fail
    refine (Same_yes _ _ _ _ _ _ _ _ _ h_K h_N_14 (by omega) (by omega) (by rw [← E_K.out, ← E_N.out]; exact uni_empty _)).mono ?_
    rintro e v16 ⟨rfl, q16⟩
    have B16 := Bl.q B15 q16
    clear q16 h_N_14 h_K B15
    go_wp2_with fail
    refine (awake_any _).mono ?_
    rintro e v17 ⟨rfl, b17⟩
    have B17 := Bl.trans B16 b17
    clear b17  B16
    go_wp2_with fail
    go_ret
    exact ⟨rfl, B17⟩
  · have xv := hid ev
    clear ev
    go_enter Try.func6, Try.ntmps6
    go_wp2_with fail
    refine (Normal_any _ _ _ _ _ s0 l0 O0 (by omega)).mono ?_
    rintro e v1 ⟨A_N, c_N, rfl, h_N, hc_N, b1⟩
    have B1 := Bl.trans (Bl.refl _) b1
    have m_N : (nor z0).length ≤ 2097152 := by have := nor_len z0; omega
    have o_N := hid (oks_nor O0)
    generalize e_N : nor z0 = L_N at h_N hc_N m_N o_N ⊢
    have E_N := hid e_N
    clear e_N b1
    go_wp2_with fail
    refine (Union_any _ _ _ _ _ _ _ _ _ (s0.bl B1) (s1.bl B1) l0 l1 O0 O1 (by omega) (by omega)).mono ?_
    rintro e v2 ⟨A_U, c_U, rfl, h_U, hc_U, b2⟩
    have B2 := Bl.trans B1 b2
    have h_N_1 := h_N.bl b2
    have m_U : (uni z0 z1).length ≤ 4194304 := by have := uni_len z0 z1; omega
    have o_U := hid (oks_uni O0 O1)
    generalize e_U : uni z0 z1 = L_U at h_U hc_U m_U o_U ⊢
    have E_U := hid e_U
    clear e_U b2 h_N B1
    go_wp2_with fail
    refine (Inter_any _ _ _ _ _ _ _ _ _ (s0.bl B2) (s1.bl B2) l0 l1 O0 O1 (by omega) (by omega)).mono ?_
    rintro e v3 ⟨A_I, c_I, rfl, h_I, hc_I, b3⟩
    have B3 := Bl.trans B2 b3
    have h_N_2 := h_N_1.bl b3
    have h_U_1 := h_U.bl b3
    have m_I : (int z0 z1).length ≤ 4194304 := by have := int_len z0 z1; omega
    have o_I := hid (oks_int O0 O1)
    generalize e_I : int z0 z1 = L_I at h_I hc_I m_I o_I ⊢
    have E_I := hid e_I
    clear e_I b3 h_N_1 h_U B2
    go_wp2_with fail
    refine (Minus_any _ _ _ _ _ _ _ _ _ (s0.bl B3) (s1.bl B3) l0 l1 O0 O1 (by omega) (by omega)).mono ?_
    rintro e v4 ⟨A_M, c_M, rfl, h_M, hc_M, b4⟩
    have B4 := Bl.trans B3 b4
    have h_N_3 := h_N_2.bl b4
    have h_U_2 := h_U_1.bl b4
    have h_I_1 := h_I.bl b4
    have m_M : (mns z0 z1).length ≤ 4194304 := by have := mns_len z0 z1; omega
    have o_M := hid (oks_mns O0 O1)
    generalize e_M : mns z0 z1 = L_M at h_M hc_M m_M o_M ⊢
    have E_M := hid e_M
    clear e_M b4 h_N_2 h_U_1 h_I B3
    have p0 := valid_any _ _ c_N _ _ _ h_N_3 (by omega)
    rw [show vdb L_N = true by rw [← E_N.out]; exact vdb_yes (nor_vd _)] at p0
    have P0 := hid p0
    clear p0
    go_wp2_with fail
    refine (P0.out).mono ?_
    rintro e v5 ⟨rfl, b5⟩
    have B5 := Bl.q B4 b5
    have h_N_4 := h_N_3.bl b5.bl
    have h_U_3 := h_U_2.bl b5.bl
    have h_I_2 := h_I_1.bl b5.bl
    have h_M_1 := h_M.bl b5.bl
    clear b5 h_N_3 h_U_2 h_I_1 h_M B4
    have p1 := valid_any _ _ c_U _ _ _ h_U_3 (by omega)
    rw [show vdb L_U = true by rw [← E_U.out]; exact vdb_yes (uni_vd _ _)] at p1
    have P1 := hid p1
    clear p1
    go_wp2_with fail
    refine (P1.out).mono ?_
    rintro e v6 ⟨rfl, b6⟩
    have B6 := Bl.q B5 b6
    have h_N_5 := h_N_4.bl b6.bl
    have h_U_4 := h_U_3.bl b6.bl
    have h_I_3 := h_I_2.bl b6.bl
    have h_M_2 := h_M_1.bl b6.bl
    clear b6 h_N_4 h_U_3 h_I_2 h_M_1 B5
    have p2 := valid_any _ _ c_I _ _ _ h_I_3 (by omega)
    rw [show vdb L_I = true by rw [← E_I.out]; exact vdb_yes (int_vd _ _)] at p2
    have P2 := hid p2
    clear p2
    go_wp2_with fail
    refine (P2.out).mono ?_
    rintro e v7 ⟨rfl, b7⟩
    have B7 := Bl.q B6 b7
    have h_N_6 := h_N_5.bl b7.bl
    have h_U_5 := h_U_4.bl b7.bl
    have h_M_3 := h_M_2.bl b7.bl
    clear b7 h_N_5 h_U_4 h_I_3 h_M_2 B6
    have p3 := valid_any _ _ c_M _ _ _ h_M_3 (by omega)
    rw [show vdb L_M = true by rw [← E_M.out]; exact vdb_yes (mns_vd _ _)] at p3
    have P3 := hid p3
    clear p3
    go_wp2_with fail
    refine (P3.out).mono ?_
    rintro e v8 ⟨rfl, b8⟩
    have B8 := Bl.q B7 b8
    have h_N_7 := h_N_6.bl b8.bl
    have h_U_6 := h_U_5.bl b8.bl
    clear b8 h_N_6 h_U_5 h_M_3 B7
    have p4 := Valid_any _ _ _ _ _ (s0.bl B8) l0 O0 (by omega)
    rw [xv.out] at p4
    have P4 := hid p4
    clear p4
    go_wp2_with fail
    refine (P4.out).mono ?_
    rintro e v9 ⟨rfl, b9⟩
    have B9 := Bl.trans B8 b9
    have h_N_8 := h_N_7.bl b9
    have h_U_7 := h_U_6.bl b9
    clear b9 h_N_7 h_U_6 B8
    have p5 := valid_any _ _ cap0 _ _ _ (s0.bl B9) (by omega)
    rw [xv.out] at p5
    have P5 := hid p5
    clear p5
    go_wp2_with fail
    refine (P5.out).mono ?_
    rintro e v10 ⟨rfl, b10⟩
    have B10 := Bl.q B9 b10
    have h_N_9 := h_N_8.bl b10.bl
    have h_U_8 := h_U_7.bl b10.bl
    clear b10 h_N_8 h_U_7 B9
    have p6 := Valid_any _ _ _ _ _ h_U_8 hc_U o_U.out (by omega)
    rw [show vdb L_U = true by rw [← E_U.out]; exact vdb_yes (uni_vd _ _)] at p6
    have P6 := hid p6
    clear p6
    go_wp2_with fail
    refine (P6.out).mono ?_
    rintro e v11 ⟨rfl, b11⟩
    have B11 := Bl.trans B10 b11
    have h_N_10 := h_N_9.bl b11
    clear b11 h_N_9 h_U_8 B10
    go_wp2_with fail
    refine (Normal_any _ _ _ _ _ h_N_10 hc_N o_N.out (by omega)).mono ?_
    rintro e v12 ⟨A_N2, c_N2, rfl, h_N2, hc_N2, b12⟩
    have B12 := Bl.trans B11 b12
    have h_N_11 := h_N_10.bl b12
    have m_N2 : (nor L_N).length ≤ 4194304 := by have := nor_len L_N; omega
    have o_N2 := hid (oks_nor o_N.out)
    generalize e_N2 : nor L_N = L_N2 at h_N2 hc_N2 m_N2 o_N2 ⊢
    have E_N2 := hid e_N2
    clear e_N2 b12 h_N_10 B11
    go_wp2_with fail
    refine (Same_yes _ _ _ _ _ _ _ _ _ h_N2 h_N_11 (by omega) (by omega) (by rw [← E_N2.out, ← E_N.out]; exact nor_set (nor_vd _))).mono ?_
    rintro e v13 ⟨rfl, q13⟩
    have B13 := Bl.q B12 q13
    have h_N_12 := h_N_11.bl q13.bl
    clear q13 h_N_11 h_N2 B12
    have p7 := valid_any _ _ cap0 _ _ _ (s0.bl B13) (by omega)
    rw [xv.out] at p7
    have P7 := hid p7
    clear p7
    go_wp2_with fail
    refine (P7.out).mono ?_
    rintro e v14 ⟨rfl, b14⟩
    have B14 := Bl.q B13 b14
    have h_N_13 := h_N_12.bl b14.bl
    clear b14 h_N_12 B13
    go_wp2_with fail
    refine (Same_yes _ _ _ _ _ _ _ _ _ h_N_13 (s0.bl B14) (by omega) (by omega) (by rw [← E_N.out]; exact nor_set (vdb_iff.1 xv.out))).mono ?_
    rintro e v15 ⟨rfl, q15⟩
    have B15 := Bl.q B14 q15
    have h_N_14 := h_N_13.bl q15.bl
    clear q15 h_N_13 B14
    go_wp2_with fail
    refine (Union_any _ _ _ _ _ _ _ _ _ (s0.bl B15) ((ShP.nil w w.heap.size none).bl B15) l0 (Nat.le_refl 0) O0 okp_nil (by omega) (by omega)).mono ?_
    rintro e v16 ⟨A_K, c_K, rfl, h_K, hc_K, b16⟩
    have B16 := Bl.trans B15 b16
    have h_N_15 := h_N_14.bl b16
    have m_K : (uni z0 []).length ≤ 4194304 := by have := uni_len z0 []; rw [List.length_nil] at this; omega
    have o_K := hid (oks_uni O0 okp_nil)
    generalize e_K : uni z0 [] = L_K at h_K hc_K m_K o_K ⊢
    have E_K := hid e_K
    clear e_K b16 h_N_14 B15
    go_wp2_with fail
    refine (Same_yes _ _ _ _ _ _ _ _ _ h_K h_N_15 (by omega) (by omega) (by rw [← E_K.out, ← E_N.out]; exact uni_empty _)).mono ?_
    rintro e v17 ⟨rfl, q17⟩
    have B17 := Bl.q B16 q17
    clear q17 h_N_15 h_K B16
    go_wp2_with fail
    refine (awake_any _).mono ?_
    rintro e v18 ⟨rfl, b18⟩
    have B18 := Bl.trans B17 b18
    clear b18  B17
    go_wp2_with fail
    go_ret
    exact ⟨rfl, B18⟩

set_option maxRecDepth 100000 in
theorem lifted (os : Os) (started : os.Started) (H : Type) (enc : TypeId × Value → H) (F : Stop.Interp) :
    ReturnsInHanded {} Try.checked os 6 .any ((Rows.OpenSpec.upto Rows.spanValidSpec).pre6 enc Try.prog Try.f6 Rows.spanValidUptoRow.domain false) (((Rows.OpenSpec.upto Rows.spanValidSpec).at F).post enc Try.prog Try.f6 false true false false) := by
  refine returnsInHanded_of_cond (C := Try.checked) (s := Rows.OpenSpec.upto Rows.spanValidSpec) (k := Rows.uptoSmall) rfl own started (by kernel_rfl) Try.func6
    (OpenSpec.witness (enc := enc) (C := Try.checked) (s := Rows.OpenSpec.upto Rows.spanValidSpec) (k := Rows.uptoSmall) rfl false ⟨#[], #[.slice none 0 0, .slice none 0 0], []⟩ 8 (by kernel_rfl) (by kernel_rfl) (by kernel_rfl)
      (x := ([.nil, .nil], [], [])) (by kernel_rfl) rfl (by kernel_rfl)) ?_
  intro W base args ds gs before hval0 hW _ hk _
  have hval : ∀ (j : Nat) t v, Try.f6.params[j]? = some t → args[j]? = some v → Value.okWide Try.prog W .any base t v := hval0
  have hW' := hW
  obtain ⟨p, q, hA0, hV, rfl, hfz, hnd⟩ := hW
  have hA : DataW.TrodAll enc Try.prog W 0 (fun _ => true) true Try.f6.params.toList args.toList ds p := hA0
  rw [Try.params6] at hA hval
  obtain ⟨v0, vs0, d0, ds0, p0, q0, hargs, rfl, rfl, h0, r0⟩ := trodAll_cons hA
  obtain ⟨v1, vs1, d1, ds1, p1, q1, rfl, rfl, rfl, h1, r1⟩ := trodAll_cons r0
  obtain ⟨rfl, rfl, rfl⟩ := trodAll_nil r1
  obtain rfl : args = #[v0, v1] := by cases args; simp_all
  obtain ⟨rfl, rfl⟩ := trodVars_none hV
  have k0 := h0
  obtain ⟨a0, len0, cap0, z0, rfl, l0, m0, s0, O0, g0, f0, lt0⟩ := open_pairs Try.underlying22 Try.underlying34 (by kernel_rfl) ⟨rfl, rfl⟩ ⟨rfl, rfl⟩ (hval 0 22 v0 rfl rfl) h0
  have k1 := h1
  obtain ⟨a1, len1, cap1, z1, rfl, l1, m1, s1, O1, g1, f1, lt1⟩ := open_pairs Try.underlying22 Try.underlying34 (by kernel_rfl) ⟨rfl, rfl⟩ ⟨rfl, rfl⟩ (hval 1 22 v1 rfl rfl) h1
  have hbk : cap0 + cap1 ≤ 1048576 := by
    have h := of_decide_eq_true hk
    simp only [List.append_nil, List.cons_append, List.nil_append, Rows.uptoBulkAll] at h
    omega
  clear hA0 hval0
  refine (walk a0 len0 cap0 z0 a1 len1 cap1 z1 W s0 l0 O0 s1 l1 O1 hbk).mono fun e W' ⟨he, bel⟩ => ?_
  subst he
  exact ⟨_, rfl, _, _, _, [], _, [], hW', trodAll_mk1 (shut_bool Try.underlying4 _), (trodAll_cons_mk (Below.trod laidOut (by kernel_rfl) (of_decide_eq_true (by kernel_rfl)) k0 bel lt0) (trodAll_cons_mk (Below.trod laidOut (by kernel_rfl) (of_decide_eq_true (by kernel_rfl)) k1 bel lt1) trodAll_mk0)), rfl, Below.frame bel _, fun h => by cases h⟩

theorem holds : Rows.SpanValidUptoSaid :=
  OpenClaim.holds_of_cond 6 Try.f6 rfl rfl rfl rfl rfl rfl rfl ⟨rfl, rfl, rfl, rfl, rfl⟩ rfl rfl rfl rfl rfl (by kernel_rfl) Try.func6 (by kernel_rfl)
    (of_decide_eq_true (by kernel_rfl)) (by unfold Func.isWrapper; first | (rw [if_pos (by decide +kernel)]; kernel_rfl) | (rw [if_neg (by decide +kernel)]; exact ⟨rfl, rfl⟩))
    (fun os started H enc _ F => lifted os started H enc F)
end Go.Proofs.Ytdfnmohgkjonfaa.SpanValid
