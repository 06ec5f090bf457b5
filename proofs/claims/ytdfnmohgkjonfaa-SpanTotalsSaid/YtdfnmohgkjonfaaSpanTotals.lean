/- SpanTotals returns true for every two lists of ranges: the totals of the union and of the intersection add up to those of both lists. No condition beyond the form's own reach. -/
import Derived.Test.YtdfnmohgkjonfaaSAwake
import Derived.ChangeOld
namespace Go.Proofs.Ytdfnmohgkjonfaa.SpanTotals
open Go.ChangeShapes Go.WideShapes Go.ChangeAt Go.RowKit
open Go.ChangeMaps (open_string shut_string)
open Go.Proofs.Ytdfnmohgkjonfaa.Wire
open Go.Proofs.Ytdfnmohgkjonfaa.Span
set_option linter.unusedVariables false
set_option linter.unusedSimpArgs false

set_option maxRecDepth 100000 in
set_option maxHeartbeats 8000000 in
theorem walk (a0 : Option Addr) (len0 cap0 : Nat) (z0 : List Pr) (a1 : Option Addr) (len1 cap1 : Nat) (z1 : List Pr) (w : World) (s0 : ShP w w.heap.size a0 len0 z0) (l0 : len0 ≤ cap0) (O0 : okp z0) (b0 : cap0 * 16 ≤ 140737488351232) (s1 : ShP w w.heap.size a1 len1 z1) (l1 : len1 ≤ cap1) (O1 : okp z1) (b1 : cap1 * 16 ≤ 140737488351232) :
    Calls Try.prog 9 #[.slice a0 len0 cap0, .slice a1 len1 cap1] w fun e w' => e = .returned (.bool true) ∧ Bl w w' := by
  have e0 := s0.len
  have e1 := s1.len
  by_cases few : len0 ≤ 60 ∧ len1 ≤ 60
  · obtain ⟨f0, f1⟩ := few
    have g0 : z0.length ≤ 60 := by omega
    have g1 : z1.length ≤ 60 := by omega
    have H0 := hid e0
    have H1 := hid e1
    clear e0 e1
    have na' := near_any a0 len0 cap0 z0 w w.heap.size s0 (by omega)
    have nb' := near_any a1 len1 cap1 z1 w w.heap.size s1 (by omega)
    cases ea : nearb z0
    · rw [ea] at na'
      have na := hid na'
      clear na' nb' ea
      go_enter Try.func9, Try.ntmps9
      go_wp2_with fail
      refine (few_yes _ _ _ _ _ _ _ _ _ _ (by omega) (by omega) (by omega)).mono ?_
      rintro e w' ⟨rfl, rfl⟩
      go_wp2_with fail
      refine (na.out).mono ?_
      rintro e w' ⟨rfl, rfl⟩
      go_wp2_with fail
      refine (awake_any _).mono ?_
      rintro e v1 ⟨rfl, b1⟩
      have B1 := Bl.trans (Bl.refl _) b1
      clear b1
      go_wp2_with fail
      go_ret
      exact ⟨rfl, B1⟩
    · rw [ea] at na'
      have na := hid na'
      have xa := hid ((nearb_iff z0).1 ea)
      clear na' ea
      cases eb : nearb z1
      · rw [eb] at nb'
        have nb := hid nb'
        clear nb' eb
        go_enter Try.func9, Try.ntmps9
        go_wp2_with fail
        refine (few_yes _ _ _ _ _ _ _ _ _ _ (by omega) (by omega) (by omega)).mono ?_
        rintro e w' ⟨rfl, rfl⟩
        go_wp2_with fail
        refine (na.out).mono ?_
        rintro e w' ⟨rfl, rfl⟩
        go_wp2_with fail
        refine (nb.out).mono ?_
        rintro e w' ⟨rfl, rfl⟩
        go_wp2_with fail
        refine (awake_any _).mono ?_
        rintro e v1 ⟨rfl, b1⟩
        have B1 := Bl.trans (Bl.refl _) b1
        clear b1
        go_wp2_with fail
        go_ret
        exact ⟨rfl, B1⟩
      · rw [eb] at nb'
        have nb := hid nb'
        have xb := hid ((nearb_iff z1).1 eb)
        clear nb' eb
        go_enter Try.func9, Try.ntmps9
        go_wp2_with fail
        refine (few_yes _ _ _ _ _ _ _ _ _ _ (by omega) (by omega) (by omega)).mono ?_
        rintro e w' ⟨rfl, rfl⟩
        go_wp2_with fail
        refine (na.out).mono ?_
        rintro e w' ⟨rfl, rfl⟩
        go_wp2_with fail
        refine (nb.out).mono ?_
        rintro e w' ⟨rfl, rfl⟩
        go_wp2_with fail
        refine (Union_any _ _ _ _ _ _ _ _ _ s0 s1 l0 l1 O0 O1 (by omega) (by omega)).mono ?_
        rintro e v1 ⟨A_U, c_U, rfl, h_U, hc_U, b1⟩
        have B1 := Bl.trans (Bl.refl _) b1
        have m_U : (uni z0 z1).length ≤ 240 := by have := uni_len z0 z1; omega
        have o_U := hid (oks_uni O0 O1)
        generalize e_U : uni z0 z1 = L_U at h_U hc_U m_U o_U ⊢
        have E_U := hid e_U
        clear e_U b1
        have p1 := Total_any _ _ _ _ _ h_U hc_U o_U.out (by omega)
        have t1 := ttl_near (l := L_U) (by rw [← E_U.out]; exact near_mk xa.out xb.out)
        have q1 : ttl L_U = tot (uni z0 z1) := by rw [t1.1, ← E_U.out, nor_set (uni_vd z0 z1)]
        have t10 := t1.2.1
        have t11 := t1.2.2
        clear t1
        generalize ttl L_U = T1 at p1 q1 t10 t11
        have P1 := hid p1
        have ET1 := hid q1
        clear p1 q1
        go_wp2_with fail
        refine (P1.out).mono ?_
        rintro e v2 ⟨rfl, b2⟩
        have B2 := Bl.trans B1 b2
        clear b2 h_U B1
        go_wp2_with fail
        refine (Inter_any _ _ _ _ _ _ _ _ _ (s0.bl B2) (s1.bl B2) l0 l1 O0 O1 (by omega) (by omega)).mono ?_
        rintro e v3 ⟨A_I, c_I, rfl, h_I, hc_I, b3⟩
        have B3 := Bl.trans B2 b3
        have m_I : (int z0 z1).length ≤ 240 := by have := int_len z0 z1; omega
        have o_I := hid (oks_int O0 O1)
        generalize e_I : int z0 z1 = L_I at h_I hc_I m_I o_I ⊢
        have E_I := hid e_I
        clear e_I b3  B2
        have p2 := Total_any _ _ _ _ _ h_I hc_I o_I.out (by omega)
        have t2 := ttl_near (l := L_I) (by rw [← E_I.out]; exact near_mk xa.out xb.out)
        have q2 : ttl L_I = tot (int z0 z1) := by rw [t2.1, ← E_I.out, nor_set (int_vd z0 z1)]
        have t20 := t2.2.1
        have t21 := t2.2.2
        clear t2
        generalize ttl L_I = T2 at p2 q2 t20 t21
        have P2 := hid p2
        have ET2 := hid q2
        clear p2 q2
        go_wp2_with fail
        refine (P2.out).mono ?_
        rintro e v4 ⟨rfl, b4⟩
        have B4 := Bl.trans B3 b4
        clear b4 h_I B3
        have p3 := Total_any _ _ _ _ _ (s0.bl B4) l0 O0 (by omega)
        have t3 := ttl_near (l := z0) (xa.out)
        have q3 : ttl z0 = tot (nor z0) := by rw [t3.1]
        have t30 := t3.2.1
        have t31 := t3.2.2
        clear t3
        generalize ttl z0 = T3 at p3 q3 t30 t31
        have P3 := hid p3
        have ET3 := hid q3
        clear p3 q3
        go_wp2_with fail
        refine (P3.out).mono ?_
        rintro e v5 ⟨rfl, b5⟩
        have B5 := Bl.trans B4 b5
        clear b5  B4
        have p4 := Total_any _ _ _ _ _ (s1.bl B5) l1 O1 (by omega)
        have t4 := ttl_near (l := z1) (xb.out)
        have q4 : ttl z1 = tot (nor z1) := by rw [t4.1]
        have t40 := t4.2.1
        have t41 := t4.2.2
        clear t4
        generalize ttl z1 = T4 at p4 q4 t40 t41
        have P4 := hid p4
        have ET4 := hid q4
        clear p4 q4
        go_wp2_with fail
        refine (P4.out).mono ?_
        rintro e v6 ⟨rfl, b6⟩
        have B6 := Bl.trans B5 b6
        clear b6  B5
        have d1 : (T1 + T2 == T3 + T4) = true := by
          have h1 := ET1.out
          have h2 := ET2.out
          have h3 := ET3.out
          have h4 := ET4.out
          have h5 := tot_uni z0 z1
          rw [beq_iff_eq]; omega
        go_wp2_with fail
        refine (Minus_any _ _ _ _ _ _ _ _ _ (s0.bl B6) (s1.bl B6) l0 l1 O0 O1 (by omega) (by omega)).mono ?_
        rintro e v7 ⟨A_M, c_M, rfl, h_M, hc_M, b7⟩
        have B7 := Bl.trans B6 b7
        have m_M : (mns z0 z1).length ≤ 240 := by have := mns_len z0 z1; omega
        have o_M := hid (oks_mns O0 O1)
        generalize e_M : mns z0 z1 = L_M at h_M hc_M m_M o_M ⊢
        have E_M := hid e_M
        clear e_M b7  B6
        have p5 := Total_any _ _ _ _ _ h_M hc_M o_M.out (by omega)
        have t5 := ttl_near (l := L_M) (by rw [← E_M.out]; exact near_mk xa.out xb.out)
        have q5 : ttl L_M = tot (mns z0 z1) := by rw [t5.1, ← E_M.out, nor_set (mns_vd z0 z1)]
        have t50 := t5.2.1
        have t51 := t5.2.2
        clear t5
        generalize ttl L_M = T5 at p5 q5 t50 t51
        have P5 := hid p5
        have ET5 := hid q5
        clear p5 q5
        go_wp2_with fail
        refine (P5.out).mono ?_
        rintro e v8 ⟨rfl, b8⟩
        have B8 := Bl.trans B7 b8
        clear b8 h_M B7
        have p6 := Total_any _ _ _ _ _ (s0.bl B8) l0 O0 (by omega)
        have t6 := ttl_near (l := z0) (xa.out)
        have q6 : ttl z0 = tot (nor z0) := by rw [t6.1]
        have t60 := t6.2.1
        have t61 := t6.2.2
        clear t6
        generalize ttl z0 = T6 at p6 q6 t60 t61
        have P6 := hid p6
        have ET6 := hid q6
        clear p6 q6
        go_wp2_with fail
        refine (P6.out).mono ?_
        rintro e v9 ⟨rfl, b9⟩
        have B9 := Bl.trans B8 b9
        clear b9  B8
        have d2 : (T5 == T6 - T2) = true := by
          have h1 := ET5.out
          have h2 := ET2.out
          have h3 := ET6.out
          have h5 := tot_mns z0 z1
          rw [beq_iff_eq]; omega
        go_wp2_with fail
        refine (awake_any _).mono ?_
        rintro e v10 ⟨rfl, b10⟩
        have B10 := Bl.trans B9 b10
        clear b10  B9
        go_wp2_with fail
        go_ret
        exact ⟨rfl, B10⟩
  · clear e0 O0 e1 O1
    go_enter Try.func9, Try.ntmps9
    go_wp2_with fail
    refine (few_no _ _ _ _ _ _ _ _ _ _ (by omega)).mono ?_
    rintro e w' ⟨rfl, rfl⟩
    go_wp2_with fail
    refine (awake_any _).mono ?_
    rintro e v1 ⟨rfl, b1⟩
    have B1 := Bl.trans (Bl.refl _) b1
    clear b1
    go_wp2_with fail
    go_ret
    exact ⟨rfl, B1⟩

set_option maxRecDepth 100000 in
theorem lifted (os : Os) (started : os.Started) (H : Type) (enc : TypeId × Value → H) :
    ReturnsInHanded {} Try.checked os 9 .any (Rows.spanTotalsSpec.pre6 enc Try.prog Try.f9 Rows.spanTotalsRow.domain false) (Rows.spanTotalsSpec.post enc Try.prog Try.f9 false true false false) := by
  refine returnsInHanded_of_change_sized (C := Try.checked) own started (by kernel_rfl) Try.func9
    (ChangeSpec.witness6 (enc := enc) (C := Try.checked) false ⟨#[], #[.slice none 0 0, .slice none 0 0], []⟩ 8 (by kernel_rfl) (by kernel_rfl) (by kernel_rfl) (by kernel_rfl)) ?_
  intro W base args ds gs before hval0 hW _ hsz0 _
  have hsz : (DataW.weightsEach Try.prog (Try.f9.params.toList ++ Rows.spanTotalsSpec.plain.varTypes Try.prog) (ds ++ gs)).all (· ≤ reachBytes) = true := hsz0
  have hval : ∀ (j : Nat) t v, Try.f9.params[j]? = some t → args[j]? = some v → Value.okWide Try.prog W .any base t v := hval0
  have hW' := hW
  obtain ⟨p, q, hA0, hV, rfl, hfz, hnd⟩ := hW
  have hA : DataW.TrodAll enc Try.prog W 0 (fun _ => true) true Try.f9.params.toList args.toList ds p := hA0
  rw [Try.params9] at hA hval hsz
  obtain ⟨v0, vs0, d0, ds0, p0, q0, hargs, rfl, rfl, h0, r0⟩ := trodAll_cons hA
  obtain ⟨v1, vs1, d1, ds1, p1, q1, rfl, rfl, rfl, h1, r1⟩ := trodAll_cons r0
  obtain ⟨rfl, rfl, rfl⟩ := trodAll_nil r1
  obtain rfl : args = #[v0, v1] := by cases args; simp_all
  obtain ⟨rfl, rfl⟩ := trodVars_none hV
  have k0 := h0
  obtain ⟨a0, len0, cap0, z0, rfl, l0, m0, s0, O0, g0, f0, lt0⟩ := open_pairs Try.underlying22 Try.underlying34 (by kernel_rfl) ⟨rfl, rfl⟩ ⟨rfl, rfl⟩ (hval 0 22 v0 rfl rfl) h0
  have b0 := reach_pairs hsz (j := 0) (t := 22) (e := 34) rfl rfl Try.underlying22 (by kernel_rfl) f0
  have k1 := h1
  obtain ⟨a1, len1, cap1, z1, rfl, l1, m1, s1, O1, g1, f1, lt1⟩ := open_pairs Try.underlying22 Try.underlying34 (by kernel_rfl) ⟨rfl, rfl⟩ ⟨rfl, rfl⟩ (hval 1 22 v1 rfl rfl) h1
  have b1 := reach_pairs hsz (j := 1) (t := 22) (e := 34) rfl rfl Try.underlying22 (by kernel_rfl) f1
  clear hA0 hval0
  refine (walk a0 len0 cap0 z0 a1 len1 cap1 z1 W s0 l0 O0 b0 s1 l1 O1 b1).mono fun e W' ⟨he, bel⟩ => ?_
  subst he
  exact ⟨_, rfl, _, _, _, [], _, [], hW', trodAll_mk1 (shut_bool Try.underlying4 _), (trodAll_cons_mk (Below.trod laidOut (by kernel_rfl) (of_decide_eq_true (by kernel_rfl)) k0 bel lt0) (trodAll_cons_mk (Below.trod laidOut (by kernel_rfl) (of_decide_eq_true (by kernel_rfl)) k1 bel lt1) trodAll_mk0)), rfl, Below.frame bel _, fun h => by cases h⟩

theorem holds : Rows.SpanTotalsSaid :=
  OpenClaim.holds_of_wide 9 Try.f9 rfl rfl rfl rfl rfl rfl rfl ⟨rfl, rfl, rfl, rfl, rfl⟩ rfl rfl rfl rfl rfl (by kernel_rfl) Try.func9 (by kernel_rfl)
    (of_decide_eq_true (by kernel_rfl)) (by unfold Func.isWrapper; first | (rw [if_pos (by decide +kernel)]; kernel_rfl) | (rw [if_neg (by decide +kernel)]; exact ⟨rfl, rfl⟩))
    (fun os started H enc _ => lifted os started H enc)
end Go.Proofs.Ytdfnmohgkjonfaa.SpanTotals
