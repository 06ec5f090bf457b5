/- SpanMembers returns true for every two lists of ranges and integer that hold together at most 1048576 values: membership is as the definition says. One condition: that bound. -/
import Derived.Test.YtdfnmohgkjonfaaSAwake
import Derived.ChangeOld
namespace Go.Proofs.Ytdfnmohgkjonfaa.SpanMembers
open Go.ChangeShapes Go.WideShapes Go.ChangeAt Go.RowKit
open Go.ChangeMaps (open_string shut_string)
open Go.Proofs.Ytdfnmohgkjonfaa.Wire
open Go.Proofs.Ytdfnmohgkjonfaa.Span
set_option linter.unusedVariables false
set_option linter.unusedSimpArgs false

set_option maxRecDepth 100000 in
set_option maxHeartbeats 8000000 in
theorem walk (a0 : Option Addr) (len0 cap0 : Nat) (z0 : List Pr) (a1 : Option Addr) (len1 cap1 : Nat) (z1 : List Pr) (a2 : Int) (w : World) (s0 : ShP w w.heap.size a0 len0 z0) (l0 : len0 ≤ cap0) (O0 : okp z0) (s1 : ShP w w.heap.size a1 len1 z1) (l1 : len1 ≤ cap1) (O1 : okp z1) (w2 : (Lit.int .i64 a2).wf = true) (hbk : cap0 + cap1 ≤ 1048576) :
    Calls Try.prog 5 #[.slice a0 len0 cap0, .slice a1 len1 cap1, .int .i64 a2] w fun e w' => e = .returned (.bool true) ∧ Bl w w' := by
  have e0 := s0.len
  have e1 := s1.len
  have N2 := wf_i64 w2
  have f0 : len0 ≤ 1048576 := by omega
  have g0 : z0.length ≤ 1048576 := by omega
  have f1 : len1 ≤ 1048576 := by omega
  have g1 : z1.length ≤ 1048576 := by omega
  have H0 := hid e0
  have H1 := hid e1
  clear e0 e1
  have ha := hid (fun w' hs => Has_any a0 len0 cap0 z0 a2 w' hs l0 O0 N2.1 N2.2 (by omega))
  have hb := hid (fun w' hs => Has_any a1 len1 cap1 z1 a2 w' hs l1 O1 N2.1 N2.2 (by omega))
  cases ea : inb z0 a2 <;> cases eb : inb z1 a2
  all_goals
    rw [ea] at ha
    rw [eb] at hb
    have xa := hid ea
    have xb := hid eb
    clear ea eb
    go_enter Try.func5, Try.ntmps5
    go_wp2_with fail
    refine (ha.out _ s0).mono ?_
    rintro e v1 ⟨rfl, b1⟩
    have B1 := Bl.trans (Bl.refl _) b1
    clear b1
    go_wp2_with fail
    refine (hb.out _ (s1.bl B1)).mono ?_
    rintro e v2 ⟨rfl, b2⟩
    have B2 := Bl.trans B1 b2
    clear b2  B1
    go_wp2_with fail
    refine (Union_any _ _ _ _ _ _ _ _ _ (s0.bl B2) (s1.bl B2) l0 l1 O0 O1 (by omega) (by omega)).mono ?_
    rintro e v3 ⟨A_U0, c_U0, rfl, h_U0, hc_U0, b3⟩
    have B3 := Bl.trans B2 b3
    have m_U0 : (uni z0 z1).length ≤ 4194304 := by have := uni_len z0 z1; omega
    have o_U0 := hid (oks_uni O0 O1)
    generalize e_U0 : uni z0 z1 = L_U0 at h_U0 hc_U0 m_U0 o_U0 ⊢
    have E_U0 := hid e_U0
    clear e_U0 b3  B2
    have p0 := Has_any _ _ _ _ a2 _ h_U0 hc_U0 o_U0.out N2.1 N2.2 (by omega)
    have t0 := uni_in z0 z1 a2
    rw [E_U0.out, xa.out, xb.out] at t0
    rw [t0] at p0
    simp only [Bool.or_true, Bool.or_false, Bool.and_true, Bool.and_false, Bool.not_true, Bool.not_false] at p0
    clear t0
    have P0 := hid p0
    clear p0
    go_wp2_with fail
    refine (P0.out).mono ?_
    rintro e v4 ⟨rfl, b4⟩
    have B4 := Bl.trans B3 b4
    clear b4 h_U0 B3
    go_wp2_with fail
    refine (Inter_any _ _ _ _ _ _ _ _ _ (s0.bl B4) (s1.bl B4) l0 l1 O0 O1 (by omega) (by omega)).mono ?_
    rintro e v5 ⟨A_U1, c_U1, rfl, h_U1, hc_U1, b5⟩
    have B5 := Bl.trans B4 b5
    have m_U1 : (int z0 z1).length ≤ 4194304 := by have := int_len z0 z1; omega
    have o_U1 := hid (oks_int O0 O1)
    generalize e_U1 : int z0 z1 = L_U1 at h_U1 hc_U1 m_U1 o_U1 ⊢
    have E_U1 := hid e_U1
    clear e_U1 b5  B4
    have p1 := Has_any _ _ _ _ a2 _ h_U1 hc_U1 o_U1.out N2.1 N2.2 (by omega)
    have t1 := int_in z0 z1 a2
    rw [E_U1.out, xa.out, xb.out] at t1
    rw [t1] at p1
    simp only [Bool.or_true, Bool.or_false, Bool.and_true, Bool.and_false, Bool.not_true, Bool.not_false] at p1
    clear t1
    have P1 := hid p1
    clear p1
    go_wp2_with fail
    refine (P1.out).mono ?_
    rintro e v6 ⟨rfl, b6⟩
    have B6 := Bl.trans B5 b6
    clear b6 h_U1 B5
    go_wp2_with fail
    refine (Minus_any _ _ _ _ _ _ _ _ _ (s0.bl B6) (s1.bl B6) l0 l1 O0 O1 (by omega) (by omega)).mono ?_
    rintro e v7 ⟨A_U2, c_U2, rfl, h_U2, hc_U2, b7⟩
    have B7 := Bl.trans B6 b7
    have m_U2 : (mns z0 z1).length ≤ 4194304 := by have := mns_len z0 z1; omega
    have o_U2 := hid (oks_mns O0 O1)
    generalize e_U2 : mns z0 z1 = L_U2 at h_U2 hc_U2 m_U2 o_U2 ⊢
    have E_U2 := hid e_U2
    clear e_U2 b7  B6
    have p2 := Has_any _ _ _ _ a2 _ h_U2 hc_U2 o_U2.out N2.1 N2.2 (by omega)
    have t2 := mns_in z0 z1 a2
    rw [E_U2.out, xa.out, xb.out] at t2
    rw [t2] at p2
    simp only [Bool.or_true, Bool.or_false, Bool.and_true, Bool.and_false, Bool.not_true, Bool.not_false] at p2
    clear t2
    have P2 := hid p2
    clear p2
    go_wp2_with fail
    refine (P2.out).mono ?_
    rintro e v8 ⟨rfl, b8⟩
    have B8 := Bl.trans B7 b8
    clear b8 h_U2 B7
    go_wp2_with fail
    refine (Normal_any _ _ _ _ _ (s0.bl B8) l0 O0 (by omega)).mono ?_
    rintro e v9 ⟨A_N, c_N, rfl, h_N, hc_N, b9⟩
    have B9 := Bl.trans B8 b9
    have m_N : (nor z0).length ≤ 4194304 := by have := nor_len z0; omega
    have o_N := hid (oks_nor O0)
    generalize e_N : nor z0 = L_N at h_N hc_N m_N o_N ⊢
    have E_N := hid e_N
    clear e_N b9  B8
    have p9 := Has_any _ _ _ _ a2 _ h_N hc_N o_N.out N2.1 N2.2 (by omega)
    have t9 := nor_in z0 a2
    rw [E_N.out, xa.out] at t9
    rw [t9] at p9
    clear t9
    have P9 := hid p9
    clear p9
    go_wp2_with fail
    refine (P9.out).mono ?_
    rintro e v10 ⟨rfl, b10⟩
    have B10 := Bl.trans B9 b10
    clear b10 h_N B9
    go_wp2_with fail
    refine (awake_any _).mono ?_
    rintro e v11 ⟨rfl, b11⟩
    have B11 := Bl.trans B10 b11
    clear b11  B10
    go_wp2_with fail
    go_ret
    exact ⟨rfl, B11⟩

set_option maxRecDepth 100000 in
theorem lifted (os : Os) (started : os.Started) (H : Type) (enc : TypeId × Value → H) (F : Stop.Interp) :
    ReturnsInHanded {} Try.checked os 5 .any ((Rows.OpenSpec.upto Rows.spanMembersSpec).pre6 enc Try.prog Try.f5 Rows.spanMembersUptoRow.domain false) (((Rows.OpenSpec.upto Rows.spanMembersSpec).at F).post enc Try.prog Try.f5 false true false false) := by
  refine returnsInHanded_of_cond (C := Try.checked) (s := Rows.OpenSpec.upto Rows.spanMembersSpec) (k := Rows.uptoSmall) rfl own started (by kernel_rfl) Try.func5
    (OpenSpec.witness (enc := enc) (C := Try.checked) (s := Rows.OpenSpec.upto Rows.spanMembersSpec) (k := Rows.uptoSmall) rfl false ⟨#[], #[.slice none 0 0, .slice none 0 0, .int .i64 0], []⟩ 8 (by kernel_rfl) (by kernel_rfl) (by kernel_rfl)
      (x := ([.nil, .nil, .lit (.int .i64 0)], [], [])) (by kernel_rfl) rfl (by kernel_rfl)) ?_
  intro W base args ds gs before hval0 hW _ hk _
  have hval : ∀ (j : Nat) t v, Try.f5.params[j]? = some t → args[j]? = some v → Value.okWide Try.prog W .any base t v := hval0
  have hW' := hW
  obtain ⟨p, q, hA0, hV, rfl, hfz, hnd⟩ := hW
  have hA : DataW.TrodAll enc Try.prog W 0 (fun _ => true) true Try.f5.params.toList args.toList ds p := hA0
  rw [Try.params5] at hA hval
  obtain ⟨v0, vs0, d0, ds0, p0, q0, hargs, rfl, rfl, h0, r0⟩ := trodAll_cons hA
  obtain ⟨v1, vs1, d1, ds1, p1, q1, rfl, rfl, rfl, h1, r1⟩ := trodAll_cons r0
  obtain ⟨v2, vs2, d2, ds2, p2, q2, rfl, rfl, rfl, h2, r2⟩ := trodAll_cons r1
  obtain ⟨rfl, rfl, rfl⟩ := trodAll_nil r2
  obtain rfl : args = #[v0, v1, v2] := by cases args; simp_all
  obtain ⟨rfl, rfl⟩ := trodVars_none hV
  have k0 := h0
  obtain ⟨a0, len0, cap0, z0, rfl, l0, m0, s0, O0, g0, f0, lt0⟩ := open_pairs Try.underlying22 Try.underlying34 (by kernel_rfl) ⟨rfl, rfl⟩ ⟨rfl, rfl⟩ (hval 0 22 v0 rfl rfl) h0
  have k1 := h1
  obtain ⟨a1, len1, cap1, z1, rfl, l1, m1, s1, O1, g1, f1, lt1⟩ := open_pairs Try.underlying22 Try.underlying34 (by kernel_rfl) ⟨rfl, rfl⟩ ⟨rfl, rfl⟩ (hval 1 22 v1 rfl rfl) h1
  obtain ⟨a2, rfl, rfl, rfl, w2⟩ := open_int Try.underlying3 (hval 2 3 v2 rfl rfl) h2
  have hbk : cap0 + cap1 ≤ 1048576 := by
    have h := of_decide_eq_true hk
    simp only [List.append_nil, List.cons_append, List.nil_append, Rows.uptoBulkAll] at h
    omega
  clear hA0 hval0
  refine (walk a0 len0 cap0 z0 a1 len1 cap1 z1 a2 W s0 l0 O0 s1 l1 O1 w2 hbk).mono fun e W' ⟨he, bel⟩ => ?_
  subst he
  exact ⟨_, rfl, _, _, _, [], _, [], hW', trodAll_mk1 (shut_bool Try.underlying4 _), (trodAll_cons_mk (Below.trod laidOut (by kernel_rfl) (of_decide_eq_true (by kernel_rfl)) k0 bel lt0) (trodAll_cons_mk (Below.trod laidOut (by kernel_rfl) (of_decide_eq_true (by kernel_rfl)) k1 bel lt1) (trodAll_cons_mk (shut_int Try.underlying3 w2) trodAll_mk0))), rfl, Below.frame bel _, fun h => by cases h⟩

theorem holds : Rows.SpanMembersUptoSaid :=
  OpenClaim.holds_of_cond 5 Try.f5 rfl rfl rfl rfl rfl rfl rfl ⟨rfl, rfl, rfl, rfl, rfl⟩ rfl rfl rfl rfl rfl (by kernel_rfl) Try.func5 (by kernel_rfl)
    (of_decide_eq_true (by kernel_rfl)) (by unfold Func.isWrapper; first | (rw [if_pos (by decide +kernel)]; kernel_rfl) | (rw [if_neg (by decide +kernel)]; exact ⟨rfl, rfl⟩))
    (fun os started H enc _ F => lifted os started H enc F)
end Go.Proofs.Ytdfnmohgkjonfaa.SpanMembers
