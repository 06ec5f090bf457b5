/- SpanMoves returns true for every two lists of ranges and number that hold together at most 1048576 values: moving both lists moves the results. One condition: that bound. -/
import Derived.Test.YtdfnmohgkjonfaaSAwake
import Derived.ChangeOld
namespace Go.Proofs.Ytdfnmohgkjonfaa.SpanMoves
open Go.ChangeShapes Go.WideShapes Go.ChangeAt Go.RowKit
open Go.ChangeMaps (open_string shut_string)
open Go.Proofs.Ytdfnmohgkjonfaa.Wire
open Go.Proofs.Ytdfnmohgkjonfaa.Span
set_option linter.unusedVariables false
set_option linter.unusedSimpArgs false

set_option maxRecDepth 100000 in
set_option maxHeartbeats 8000000 in
theorem walk (a0 : Option Addr) (len0 cap0 : Nat) (z0 : List Pr) (a1 : Option Addr) (len1 cap1 : Nat) (z1 : List Pr) (a2 : Int) (w : World) (s0 : ShP w w.heap.size a0 len0 z0) (l0 : len0 ≤ cap0) (O0 : okp z0) (s1 : ShP w w.heap.size a1 len1 z1) (l1 : len1 ≤ cap1) (O1 : okp z1) (w2 : (Lit.int .i64 a2).wf = true) (hbk : cap0 + cap1 ≤ 1048576) :
    Calls Try.prog 10 #[.slice a0 len0 cap0, .slice a1 len1 cap1, .int .i64 a2] w fun e w' => e = .returned (.bool true) ∧ Bl w w' := by
  have e0 := s0.len
  have e1 := s1.len
  have N2 := wf_i64 w2
  have f0 : len0 ≤ 1048576 := by omega
  have g0 : z0.length ≤ 1048576 := by omega
  have f1 : len1 ≤ 1048576 := by omega
  have g1 : z1.length ≤ 1048576 := by omega
  have H0 := hid e0
  have H1 := hid e1
  clear e0 e1
  have na' := near_any a0 len0 cap0 z0 w w.heap.size s0 (by omega)
  have nb' := near_any a1 len1 cap1 z1 w w.heap.size s1 (by omega)
  cases ea : nearb z0
  · rw [ea] at na'
    have na := hid na'
    clear na' nb' ea
    go_enter Try.func10, Try.ntmps10
    go_wp2_with fail
    refine (na.out).mono ?_
    rintro e w' ⟨rfl, rfl⟩
    go_wp2_with fail
    refine (awake_any _).mono ?_
    rintro e v1 ⟨rfl, b1⟩
    have B1 := Bl.trans (Bl.refl _) b1
    clear b1
    go_wp2_with fail
    go_ret
    exact ⟨rfl, B1⟩
  rw [ea] at na'
  have na := hid na'
  have xa := hid ((nearb_iff z0).1 ea)
  clear na' ea
  cases eb : nearb z1
  · rw [eb] at nb'
    have nb := hid nb'
    clear nb' eb
    go_enter Try.func10, Try.ntmps10
    go_wp2_with fail
    refine (na.out).mono ?_
    rintro e w' ⟨rfl, rfl⟩
    go_wp2_with fail
    refine (nb.out).mono ?_
    rintro e w' ⟨rfl, rfl⟩
    go_wp2_with fail
    refine (awake_any _).mono ?_
    rintro e v1 ⟨rfl, b1⟩
    have B1 := Bl.trans (Bl.refl _) b1
    clear b1
    go_wp2_with fail
    go_ret
    exact ⟨rfl, B1⟩
  rw [eb] at nb'
  have nb := hid nb'
  have xb := hid ((nearb_iff z1).1 eb)
  clear nb' eb
  by_cases h1 : a2 < -1099511627776
  · skip
    go_enter Try.func10, Try.ntmps10
    go_wp2_with fail
    refine (na.out).mono ?_
    rintro e w' ⟨rfl, rfl⟩
    go_wp2_with fail
    refine (nb.out).mono ?_
    rintro e w' ⟨rfl, rfl⟩
    go_wp2_with fail
    refine (awake_any _).mono ?_
    rintro e v1 ⟨rfl, b1⟩
    have B1 := Bl.trans (Bl.refl _) b1
    clear b1
    go_wp2_with fail
    go_ret
    exact ⟨rfl, B1⟩
  have t1 : decide (a2 < -1099511627776) = false := by simpa using h1
  by_cases h2 : 1099511627776 < a2
  · skip
    go_enter Try.func10, Try.ntmps10
    go_wp2_with fail
    refine (na.out).mono ?_
    rintro e w' ⟨rfl, rfl⟩
    go_wp2_with fail
    refine (nb.out).mono ?_
    rintro e w' ⟨rfl, rfl⟩
    go_wp2_with fail
    refine (awake_any _).mono ?_
    rintro e v1 ⟨rfl, b1⟩
    have B1 := Bl.trans (Bl.refl _) b1
    clear b1
    go_wp2_with fail
    go_ret
    exact ⟨rfl, B1⟩
  have t2 : decide (1099511627776 < a2) = false := by simpa using h2
  have hd : Hid (-1099511627776 ≤ a2 ∧ a2 ≤ 1099511627776) := hid ⟨by omega, by omega⟩
  clear h1 h2
  go_enter Try.func10, Try.ntmps10
  go_wp2_with fail
  refine (na.out).mono ?_
  rintro e w' ⟨rfl, rfl⟩
  go_wp2_with fail
  refine (nb.out).mono ?_
  rintro e w' ⟨rfl, rfl⟩
  go_wp2_with fail
  refine (moved_any _ _ _ _ a2 _ s0 (by omega) xa.out hd.out).mono ?_
  rintro e v1 ⟨A_X, c_X, rfl, h_X, hc_X, b1⟩
  have B1 := Bl.trans (Bl.refl _) b1
  have m_X : (mv a2 z0).length ≤ 1048576 := by rw [mv_len]; omega
  have o_X := hid (okp_mv xa.out hd.out)
  generalize e_X : mv a2 z0 = L_X at h_X hc_X m_X o_X ⊢
  have E_X := hid e_X
  clear e_X b1
  go_wp2_with fail
  refine (moved_any _ _ _ _ a2 _ (s1.bl B1) (by omega) xb.out hd.out).mono ?_
  rintro e v2 ⟨A_Y, c_Y, rfl, h_Y, hc_Y, b2⟩
  have B2 := Bl.trans B1 b2
  have h_X_1 := h_X.bl b2
  have m_Y : (mv a2 z1).length ≤ 1048576 := by rw [mv_len]; omega
  have o_Y := hid (okp_mv xb.out hd.out)
  generalize e_Y : mv a2 z1 = L_Y at h_Y hc_Y m_Y o_Y ⊢
  have E_Y := hid e_Y
  clear e_Y b2 h_X B1
  go_wp2_with fail
  refine (Union_any _ _ _ _ _ _ _ _ _ h_X_1 h_Y hc_X hc_Y o_X.out o_Y.out (by omega) (by omega)).mono ?_
  rintro e v3 ⟨A_P0, c_P0, rfl, h_P0, hc_P0, b3⟩
  have B3 := Bl.trans B2 b3
  have h_X_2 := h_X_1.bl b3
  have h_Y_1 := h_Y.bl b3
  have m_P0 : (uni L_X L_Y).length ≤ 4194304 := by have := uni_len L_X L_Y; omega
  have o_P0 := hid (oks_uni o_X.out o_Y.out)
  generalize e_P0 : uni L_X L_Y = L_P0 at h_P0 hc_P0 m_P0 o_P0 ⊢
  have E_P0 := hid e_P0
  clear e_P0 b3 h_X_1 h_Y B2
  go_wp2_with fail
  refine (Union_any _ _ _ _ _ _ _ _ _ (s0.bl B3) (s1.bl B3) l0 l1 O0 O1 (by omega) (by omega)).mono ?_
  rintro e v4 ⟨A_Q0, c_Q0, rfl, h_Q0, hc_Q0, b4⟩
  have B4 := Bl.trans B3 b4
  have h_X_3 := h_X_2.bl b4
  have h_Y_2 := h_Y_1.bl b4
  have h_P0_1 := h_P0.bl b4
  have m_Q0 : (uni z0 z1).length ≤ 4194304 := by have := uni_len z0 z1; omega
  have o_Q0 := hid (oks_uni O0 O1)
  generalize e_Q0 : uni z0 z1 = L_Q0 at h_Q0 hc_Q0 m_Q0 o_Q0 ⊢
  have E_Q0 := hid e_Q0
  clear e_Q0 b4 h_X_2 h_Y_1 h_P0 B3
  have nq0 := hid (show ∀ p ∈ L_Q0, nr p by rw [← E_Q0.out]; exact near_mk xa.out xb.out)
  go_wp2_with fail
  refine (moved_any _ _ _ _ a2 _ h_Q0 (by omega) nq0.out hd.out).mono ?_
  rintro e v5 ⟨A_R0, c_R0, rfl, h_R0, hc_R0, b5⟩
  have B5 := Bl.trans B4 b5
  have h_X_4 := h_X_3.bl b5
  have h_Y_3 := h_Y_2.bl b5
  have h_P0_2 := h_P0_1.bl b5
  have m_R0 : (mv a2 L_Q0).length ≤ 4194304 := by rw [mv_len]; omega
  have o_R0 := hid (okp_mv nq0.out hd.out)
  generalize e_R0 : mv a2 L_Q0 = L_R0 at h_R0 hc_R0 m_R0 o_R0 ⊢
  have E_R0 := hid e_R0
  clear e_R0 b5 h_X_3 h_Y_2 h_P0_1 h_Q0 B4
  go_wp2_with fail
  refine (Same_yes _ _ _ _ _ _ _ _ _ h_P0_2 h_R0 (by omega) (by omega) (by rw [← E_R0.out, ← E_Q0.out, ← E_P0.out, ← E_Y.out, ← E_X.out]; exact mv_mk _ _ _ _)).mono ?_
  rintro e v6 ⟨rfl, q6⟩
  have B6 := Bl.q B5 q6
  have h_X_5 := h_X_4.bl q6.bl
  have h_Y_4 := h_Y_3.bl q6.bl
  clear q6 h_X_4 h_Y_3 h_P0_2 h_R0 B5
  go_wp2_with fail
  refine (Inter_any _ _ _ _ _ _ _ _ _ h_X_5 h_Y_4 hc_X hc_Y o_X.out o_Y.out (by omega) (by omega)).mono ?_
  rintro e v7 ⟨A_P1, c_P1, rfl, h_P1, hc_P1, b7⟩
  have B7 := Bl.trans B6 b7
  have h_X_6 := h_X_5.bl b7
  have h_Y_5 := h_Y_4.bl b7
  have m_P1 : (int L_X L_Y).length ≤ 4194304 := by have := int_len L_X L_Y; omega
  have o_P1 := hid (oks_int o_X.out o_Y.out)
  generalize e_P1 : int L_X L_Y = L_P1 at h_P1 hc_P1 m_P1 o_P1 ⊢
  have E_P1 := hid e_P1
  clear e_P1 b7 h_X_5 h_Y_4 B6
  go_wp2_with fail
  refine (Inter_any _ _ _ _ _ _ _ _ _ (s0.bl B7) (s1.bl B7) l0 l1 O0 O1 (by omega) (by omega)).mono ?_
  rintro e v8 ⟨A_Q1, c_Q1, rfl, h_Q1, hc_Q1, b8⟩
  have B8 := Bl.trans B7 b8
  have h_X_7 := h_X_6.bl b8
  have h_Y_6 := h_Y_5.bl b8
  have h_P1_1 := h_P1.bl b8
  have m_Q1 : (int z0 z1).length ≤ 4194304 := by have := int_len z0 z1; omega
  have o_Q1 := hid (oks_int O0 O1)
  generalize e_Q1 : int z0 z1 = L_Q1 at h_Q1 hc_Q1 m_Q1 o_Q1 ⊢
  have E_Q1 := hid e_Q1
  clear e_Q1 b8 h_X_6 h_Y_5 h_P1 B7
  have nq1 := hid (show ∀ p ∈ L_Q1, nr p by rw [← E_Q1.out]; exact near_mk xa.out xb.out)
  go_wp2_with fail
  refine (moved_any _ _ _ _ a2 _ h_Q1 (by omega) nq1.out hd.out).mono ?_
  rintro e v9 ⟨A_R1, c_R1, rfl, h_R1, hc_R1, b9⟩
  have B9 := Bl.trans B8 b9
  have h_X_8 := h_X_7.bl b9
  have h_Y_7 := h_Y_6.bl b9
  have h_P1_2 := h_P1_1.bl b9
  have m_R1 : (mv a2 L_Q1).length ≤ 4194304 := by rw [mv_len]; omega
  have o_R1 := hid (okp_mv nq1.out hd.out)
  generalize e_R1 : mv a2 L_Q1 = L_R1 at h_R1 hc_R1 m_R1 o_R1 ⊢
  have E_R1 := hid e_R1
  clear e_R1 b9 h_X_7 h_Y_6 h_P1_1 h_Q1 B8
  go_wp2_with fail
  refine (Same_yes _ _ _ _ _ _ _ _ _ h_P1_2 h_R1 (by omega) (by omega) (by rw [← E_R1.out, ← E_Q1.out, ← E_P1.out, ← E_Y.out, ← E_X.out]; exact mv_mk _ _ _ _)).mono ?_
  rintro e v10 ⟨rfl, q10⟩
  have B10 := Bl.q B9 q10
  have h_X_9 := h_X_8.bl q10.bl
  have h_Y_8 := h_Y_7.bl q10.bl
  clear q10 h_X_8 h_Y_7 h_P1_2 h_R1 B9
  go_wp2_with fail
  refine (Minus_any _ _ _ _ _ _ _ _ _ h_X_9 h_Y_8 hc_X hc_Y o_X.out o_Y.out (by omega) (by omega)).mono ?_
  rintro e v11 ⟨A_P2, c_P2, rfl, h_P2, hc_P2, b11⟩
  have B11 := Bl.trans B10 b11
  have h_X_10 := h_X_9.bl b11
  have m_P2 : (mns L_X L_Y).length ≤ 4194304 := by have := mns_len L_X L_Y; omega
  have o_P2 := hid (oks_mns o_X.out o_Y.out)
  generalize e_P2 : mns L_X L_Y = L_P2 at h_P2 hc_P2 m_P2 o_P2 ⊢
  have E_P2 := hid e_P2
  clear e_P2 b11 h_X_9 h_Y_8 B10
  go_wp2_with fail
  refine (Minus_any _ _ _ _ _ _ _ _ _ (s0.bl B11) (s1.bl B11) l0 l1 O0 O1 (by omega) (by omega)).mono ?_
  rintro e v12 ⟨A_Q2, c_Q2, rfl, h_Q2, hc_Q2, b12⟩
  have B12 := Bl.trans B11 b12
  have h_X_11 := h_X_10.bl b12
  have h_P2_1 := h_P2.bl b12
  have m_Q2 : (mns z0 z1).length ≤ 4194304 := by have := mns_len z0 z1; omega
  have o_Q2 := hid (oks_mns O0 O1)
  generalize e_Q2 : mns z0 z1 = L_Q2 at h_Q2 hc_Q2 m_Q2 o_Q2 ⊢
  have E_Q2 := hid e_Q2
  clear e_Q2 b12 h_X_10 h_P2 B11
  have nq2 := hid (show ∀ p ∈ L_Q2, nr p by rw [← E_Q2.out]; exact near_mk xa.out xb.out)
  go_wp2_with fail
  refine (moved_any _ _ _ _ a2 _ h_Q2 (by omega) nq2.out hd.out).mono ?_
  rintro e v13 ⟨A_R2, c_R2, rfl, h_R2, hc_R2, b13⟩
  have B13 := Bl.trans B12 b13
  have h_X_12 := h_X_11.bl b13
  have h_P2_2 := h_P2_1.bl b13
  have m_R2 : (mv a2 L_Q2).length ≤ 4194304 := by rw [mv_len]; omega
  have o_R2 := hid (okp_mv nq2.out hd.out)
  generalize e_R2 : mv a2 L_Q2 = L_R2 at h_R2 hc_R2 m_R2 o_R2 ⊢
  have E_R2 := hid e_R2
  clear e_R2 b13 h_X_11 h_P2_1 h_Q2 B12
  go_wp2_with fail
  refine (Same_yes _ _ _ _ _ _ _ _ _ h_P2_2 h_R2 (by omega) (by omega) (by rw [← E_R2.out, ← E_Q2.out, ← E_P2.out, ← E_Y.out, ← E_X.out]; exact mv_mk _ _ _ _)).mono ?_
  rintro e v14 ⟨rfl, q14⟩
  have B14 := Bl.q B13 q14
  have h_X_13 := h_X_12.bl q14.bl
  clear q14 h_X_12 h_P2_2 h_R2 B13
  have p1 := Total_any _ _ _ _ _ h_X_13 hc_X o_X.out (by omega)
  rw [show ttl L_X = ttl z0 by rw [← E_X.out]; exact mv_ttl _ _] at p1
  have P1 := hid p1
  clear p1
  go_wp2_with fail
  refine (P1.out).mono ?_
  rintro e v15 ⟨rfl, b15⟩
  have B15 := Bl.trans B14 b15
  clear b15 h_X_13 B14
  have p2 := Total_any _ _ _ _ _ (s0.bl B15) l0 O0 (by omega)
  have P2 := hid p2
  clear p2
  go_wp2_with fail
  refine (P2.out).mono ?_
  rintro e v16 ⟨rfl, b16⟩
  have B16 := Bl.trans B15 b16
  clear b16  B15
  go_wp2_with fail
  refine (awake_any _).mono ?_
  rintro e v17 ⟨rfl, b17⟩
  have B17 := Bl.trans B16 b17
  clear b17  B16
  go_wp2_with fail
  go_ret
  exact ⟨rfl, B17⟩

set_option maxRecDepth 100000 in
theorem lifted (os : Os) (started : os.Started) (H : Type) (enc : TypeId × Value → H) (F : Stop.Interp) :
    ReturnsInHanded {} Try.checked os 10 .any ((Rows.OpenSpec.upto Rows.spanMovesSpec).pre6 enc Try.prog Try.f10 Rows.spanMovesUptoRow.domain false) (((Rows.OpenSpec.upto Rows.spanMovesSpec).at F).post enc Try.prog Try.f10 false true false false) := by
  refine returnsInHanded_of_cond (C := Try.checked) (s := Rows.OpenSpec.upto Rows.spanMovesSpec) (k := Rows.uptoSmall) rfl own started (by kernel_rfl) Try.func10
    (OpenSpec.witness (enc := enc) (C := Try.checked) (s := Rows.OpenSpec.upto Rows.spanMovesSpec) (k := Rows.uptoSmall) rfl false ⟨#[], #[.slice none 0 0, .slice none 0 0, .int .i64 0], []⟩ 8 (by kernel_rfl) (by kernel_rfl) (by kernel_rfl)
      (x := ([.nil, .nil, .lit (.int .i64 0)], [], [])) (by kernel_rfl) rfl (by kernel_rfl)) ?_
  intro W base args ds gs before hval0 hW _ hk _
  have hval : ∀ (j : Nat) t v, Try.f10.params[j]? = some t → args[j]? = some v → Value.okWide Try.prog W .any base t v := hval0
  have hW' := hW
  obtain ⟨p, q, hA0, hV, rfl, hfz, hnd⟩ := hW
  have hA : DataW.TrodAll enc Try.prog W 0 (fun _ => true) true Try.f10.params.toList args.toList ds p := hA0
  rw [Try.params10] at hA hval
  obtain ⟨v0, vs0, d0, ds0, p0, q0, hargs, rfl, rfl, h0, r0⟩ := trodAll_cons hA
  obtain ⟨v1, vs1, d1, ds1, p1, q1, rfl, rfl, rfl, h1, r1⟩ := trodAll_cons r0
  obtain ⟨v2, vs2, d2, ds2, p2, q2, rfl, rfl, rfl, h2, r2⟩ := trodAll_cons r1
  obtain ⟨rfl, rfl, rfl⟩ := trodAll_nil r2
  obtain rfl : args = #[v0, v1, v2] := by cases args; simp_all
  obtain ⟨rfl, rfl⟩ := trodVars_none hV
  have k0 := h0
  obtain ⟨a0, len0, cap0, z0, rfl, l0, m0, s0, O0, g0, f0, lt0⟩ := open_pairs Try.underlying22 Try.underlying34 (by kernel_rfl) ⟨rfl, rfl⟩ ⟨rfl, rfl⟩ (hval 0 22 v0 rfl rfl) h0
  have k1 := h1
  obtain ⟨a1, len1, cap1, z1, rfl, l1, m1, s1, O1, g1, f1, lt1⟩ := open_pairs Try.underlying22 Try.underlying34 (by kernel_rfl) ⟨rfl, rfl⟩ ⟨rfl, rfl⟩ (hval 1 22 v1 rfl rfl) h1
  obtain ⟨a2, rfl, rfl, rfl, w2⟩ := open_int Try.underlying3 (hval 2 3 v2 rfl rfl) h2
  have hbk : cap0 + cap1 ≤ 1048576 := by
    have h := of_decide_eq_true hk
    simp only [List.append_nil, List.cons_append, List.nil_append, Rows.uptoBulkAll] at h
    omega
  clear hA0 hval0
  refine (walk a0 len0 cap0 z0 a1 len1 cap1 z1 a2 W s0 l0 O0 s1 l1 O1 w2 hbk).mono fun e W' ⟨he, bel⟩ => ?_
  subst he
  exact ⟨_, rfl, _, _, _, [], _, [], hW', trodAll_mk1 (shut_bool Try.underlying4 _), (trodAll_cons_mk (Below.trod laidOut (by kernel_rfl) (of_decide_eq_true (by kernel_rfl)) k0 bel lt0) (trodAll_cons_mk (Below.trod laidOut (by kernel_rfl) (of_decide_eq_true (by kernel_rfl)) k1 bel lt1) (trodAll_cons_mk (shut_int Try.underlying3 w2) trodAll_mk0))), rfl, Below.frame bel _, fun h => by cases h⟩

theorem holds : Rows.SpanMovesUptoSaid :=
  OpenClaim.holds_of_cond 10 Try.f10 rfl rfl rfl rfl rfl rfl rfl ⟨rfl, rfl, rfl, rfl, rfl⟩ rfl rfl rfl rfl rfl (by kernel_rfl) Try.func10 (by kernel_rfl)
    (of_decide_eq_true (by kernel_rfl)) (by unfold Func.isWrapper; first | (rw [if_pos (by decide +kernel)]; kernel_rfl) | (rw [if_neg (by decide +kernel)]; exact ⟨rfl, rfl⟩))
    (fun os started H enc _ F => lifted os started H enc F)
end Go.Proofs.Ytdfnmohgkjonfaa.SpanMoves
