/- SpanUnique returns true for every two lists of ranges that hold together at most 1048576 values: two lists have the same Normal exactly if both differences are empty. One condition: that bound. -/
import Derived.Test.YtdfnmohgkjonfaaSAwake
import Derived.ChangeOld
namespace Go.Proofs.Ytdfnmohgkjonfaa.SpanUnique
open Go.ChangeShapes Go.WideShapes Go.ChangeAt Go.RowKit
open Go.ChangeMaps (open_string shut_string)
open Go.Proofs.Ytdfnmohgkjonfaa.Wire
open Go.Proofs.Ytdfnmohgkjonfaa.Span
set_option linter.unusedVariables false
set_option linter.unusedSimpArgs false

set_option maxRecDepth 100000 in
set_option maxHeartbeats 8000000 in
theorem walk (a0 : Option Addr) (len0 cap0 : Nat) (z0 : List Pr) (a1 : Option Addr) (len1 cap1 : Nat) (z1 : List Pr) (w : World) (s0 : ShP w w.heap.size a0 len0 z0) (l0 : len0 ≤ cap0) (O0 : okp z0) (s1 : ShP w w.heap.size a1 len1 z1) (l1 : len1 ≤ cap1) (O1 : okp z1) (hbk : cap0 + cap1 ≤ 1048576) :
    Calls Try.prog 7 #[.slice a0 len0 cap0, .slice a1 len1 cap1] w fun e w' => e = .returned (.bool true) ∧ Bl w w' := by
  have e0 := s0.len
  have e1 := s1.len
  have f0 : len0 ≤ 1048576 := by omega
  have g0 : z0.length ≤ 1048576 := by omega
  have f1 : len1 ≤ 1048576 := by omega
  have g1 : z1.length ≤ 1048576 := by omega
  have H0 := hid e0
  have H1 := hid e1
  clear e0 e1
  rcases (show (mns z0 z1 ≠ [] ∨ (mns z0 z1 = [] ∧ mns z1 z0 ≠ []) ∨ (mns z0 z1 = [] ∧ mns z1 z0 = [])) by by_cases h1 : mns z0 z1 = [] <;> by_cases h2 : mns z1 z0 = [] <;> simp [h1, h2]) with h1 | ⟨h1, h2⟩ | ⟨h1, h2⟩
  · have x1 := hid h1
    clear h1
    go_enter Try.func7, Try.ntmps7
    go_wp2_with fail
    refine (Minus_any _ _ _ _ _ _ _ _ _ s0 s1 l0 l1 O0 O1 (by omega) (by omega)).mono ?_
    rintro e v1 ⟨A_M, c_M, rfl, h_M, hc_M, b1⟩
    have B1 := Bl.trans (Bl.refl _) b1
    have m_M : (mns z0 z1).length ≤ 4194304 := by have := mns_len z0 z1; omega
    have o_M := hid (oks_mns O0 O1)
    generalize e_M : mns z0 z1 = L_M at h_M hc_M m_M o_M ⊢
    have E_M := hid e_M
    clear e_M b1
    have u0 : L_M ≠ [] := by rw [← E_M.out]; exact x1.out
    have u1 : 0 < L_M.length := List.length_pos_iff.2 u0
    have u2 : ((L_M.length : Int) == 0) = false := beq_eq_false_iff_ne.2 (by omega)
    have u3 : decide (L_M = []) = false := decide_eq_false u0
    clear u0
    go_wp2_with fail
    refine (Normal_any _ _ _ _ _ (s0.bl B1) l0 O0 (by omega)).mono ?_
    rintro e v2 ⟨A_N, c_N, rfl, h_N, hc_N, b2⟩
    have B2 := Bl.trans B1 b2
    have m_N : (nor z0).length ≤ 4194304 := by have := nor_len z0; omega
    have o_N := hid (oks_nor O0)
    generalize e_N : nor z0 = L_N at h_N hc_N m_N o_N ⊢
    have E_N := hid e_N
    clear e_N b2 h_M B1
    go_wp2_with fail
    refine (Normal_any _ _ _ _ _ (s1.bl B2) l1 O1 (by omega)).mono ?_
    rintro e v3 ⟨A_N2, c_N2, rfl, h_N2, hc_N2, b3⟩
    have B3 := Bl.trans B2 b3
    have h_N_1 := h_N.bl b3
    have m_N2 : (nor z1).length ≤ 4194304 := by have := nor_len z1; omega
    have o_N2 := hid (oks_nor O1)
    generalize e_N2 : nor z1 = L_N2 at h_N2 hc_N2 m_N2 o_N2 ⊢
    have E_N2 := hid e_N2
    clear e_N2 b3 h_N B2
    have p1 := Same_any _ _ _ _ c_N c_N2 _ _ _ _ _ h_N_1 h_N2 (by omega) (by omega)
    rw [show eqb L_N L_N2 = false by rw [← E_N.out, ← E_N2.out]; exact eqb_no (fun e => x1.out (((same_iff z0 z1).2 e).1))] at p1
    have P1 := hid p1
    clear p1
    go_wp2_with fail
    refine (P1.out).mono ?_
    rintro e v4 ⟨rfl, b4⟩
    have B4 := Bl.q B3 b4
    clear b4 h_N_1 h_N2 B3
    go_wp2_with fail
    refine (awake_any _).mono ?_
    rintro e v5 ⟨rfl, b5⟩
    have B5 := Bl.trans B4 b5
    clear b5  B4
    go_wp2_with fail
    go_ret
    exact ⟨rfl, B5⟩
  · have x1 := hid h1
    have x2 := hid h2
    clear h1 h2
    go_enter Try.func7, Try.ntmps7
    go_wp2_with fail
    refine (Minus_any _ _ _ _ _ _ _ _ _ s0 s1 l0 l1 O0 O1 (by omega) (by omega)).mono ?_
    rintro e v1 ⟨A_M, c_M, rfl, h_M, hc_M, b1⟩
    have B1 := Bl.trans (Bl.refl _) b1
    have m_M : (mns z0 z1).length ≤ 4194304 := by have := mns_len z0 z1; omega
    have o_M := hid (oks_mns O0 O1)
    generalize e_M : mns z0 z1 = L_M at h_M hc_M m_M o_M ⊢
    have E_M := hid e_M
    clear e_M b1
    have u0 : L_M = [] := by rw [← E_M.out]; exact x1.out
    subst u0
    go_wp2_with fail
    refine (Minus_any _ _ _ _ _ _ _ _ _ (s1.bl B1) (s0.bl B1) l1 l0 O1 O0 (by omega) (by omega)).mono ?_
    rintro e v2 ⟨A_M2, c_M2, rfl, h_M2, hc_M2, b2⟩
    have B2 := Bl.trans B1 b2
    have m_M2 : (mns z1 z0).length ≤ 4194304 := by have := mns_len z1 z0; omega
    have o_M2 := hid (oks_mns O1 O0)
    generalize e_M2 : mns z1 z0 = L_M2 at h_M2 hc_M2 m_M2 o_M2 ⊢
    have E_M2 := hid e_M2
    clear e_M2 b2 h_M B1
    have u0 : L_M2 ≠ [] := by rw [← E_M2.out]; exact x2.out
    have u1 : 0 < L_M2.length := List.length_pos_iff.2 u0
    have u2 : ((L_M2.length : Int) == 0) = false := beq_eq_false_iff_ne.2 (by omega)
    have u3 : decide (L_M2 = []) = false := decide_eq_false u0
    clear u0
    go_wp2_with fail
    refine (Normal_any _ _ _ _ _ (s0.bl B2) l0 O0 (by omega)).mono ?_
    rintro e v3 ⟨A_N, c_N, rfl, h_N, hc_N, b3⟩
    have B3 := Bl.trans B2 b3
    have m_N : (nor z0).length ≤ 4194304 := by have := nor_len z0; omega
    have o_N := hid (oks_nor O0)
    generalize e_N : nor z0 = L_N at h_N hc_N m_N o_N ⊢
    have E_N := hid e_N
    clear e_N b3 h_M2 B2
    go_wp2_with fail
    refine (Normal_any _ _ _ _ _ (s1.bl B3) l1 O1 (by omega)).mono ?_
    rintro e v4 ⟨A_N2, c_N2, rfl, h_N2, hc_N2, b4⟩
    have B4 := Bl.trans B3 b4
    have h_N_1 := h_N.bl b4
    have m_N2 : (nor z1).length ≤ 4194304 := by have := nor_len z1; omega
    have o_N2 := hid (oks_nor O1)
    generalize e_N2 : nor z1 = L_N2 at h_N2 hc_N2 m_N2 o_N2 ⊢
    have E_N2 := hid e_N2
    clear e_N2 b4 h_N B3
    have p1 := Same_any _ _ _ _ c_N c_N2 _ _ _ _ _ h_N_1 h_N2 (by omega) (by omega)
    rw [show eqb L_N L_N2 = false by rw [← E_N.out, ← E_N2.out]; exact eqb_no (fun e => x2.out (((same_iff z0 z1).2 e).2))] at p1
    have P1 := hid p1
    clear p1
    go_wp2_with fail
    refine (P1.out).mono ?_
    rintro e v5 ⟨rfl, b5⟩
    have B5 := Bl.q B4 b5
    clear b5 h_N_1 h_N2 B4
    go_wp2_with fail
    refine (awake_any _).mono ?_
    rintro e v6 ⟨rfl, b6⟩
    have B6 := Bl.trans B5 b6
    clear b6  B5
    go_wp2_with fail
    go_ret
    exact ⟨rfl, B6⟩
  · have x1 := hid h1
    have x2 := hid h2
    clear h1 h2
    go_enter Try.func7, Try.ntmps7
    go_wp2_with fail
    refine (Minus_any _ _ _ _ _ _ _ _ _ s0 s1 l0 l1 O0 O1 (by omega) (by omega)).mono ?_
    rintro e v1 ⟨A_M, c_M, rfl, h_M, hc_M, b1⟩
    have B1 := Bl.trans (Bl.refl _) b1
    have m_M : (mns z0 z1).length ≤ 4194304 := by have := mns_len z0 z1; omega
    have o_M := hid (oks_mns O0 O1)
    generalize e_M : mns z0 z1 = L_M at h_M hc_M m_M o_M ⊢
    have E_M := hid e_M
    clear e_M b1
    have u0 : L_M = [] := by rw [← E_M.out]; exact x1.out
    subst u0
    go_wp2_with fail
    refine (Minus_any _ _ _ _ _ _ _ _ _ (s1.bl B1) (s0.bl B1) l1 l0 O1 O0 (by omega) (by omega)).mono ?_
    rintro e v2 ⟨A_M2, c_M2, rfl, h_M2, hc_M2, b2⟩
    have B2 := Bl.trans B1 b2
    have m_M2 : (mns z1 z0).length ≤ 4194304 := by have := mns_len z1 z0; omega
    have o_M2 := hid (oks_mns O1 O0)
    generalize e_M2 : mns z1 z0 = L_M2 at h_M2 hc_M2 m_M2 o_M2 ⊢
    have E_M2 := hid e_M2
    clear e_M2 b2 h_M B1
    have u0 : L_M2 = [] := by rw [← E_M2.out]; exact x2.out
    subst u0
    go_wp2_with fail
    refine (Normal_any _ _ _ _ _ (s0.bl B2) l0 O0 (by omega)).mono ?_
    rintro e v3 ⟨A_N, c_N, rfl, h_N, hc_N, b3⟩
    have B3 := Bl.trans B2 b3
    have m_N : (nor z0).length ≤ 4194304 := by have := nor_len z0; omega
    have o_N := hid (oks_nor O0)
    generalize e_N : nor z0 = L_N at h_N hc_N m_N o_N ⊢
    have E_N := hid e_N
    clear e_N b3 h_M2 B2
    go_wp2_with fail
    refine (Normal_any _ _ _ _ _ (s1.bl B3) l1 O1 (by omega)).mono ?_
    rintro e v4 ⟨A_N2, c_N2, rfl, h_N2, hc_N2, b4⟩
    have B4 := Bl.trans B3 b4
    have h_N_1 := h_N.bl b4
    have m_N2 : (nor z1).length ≤ 4194304 := by have := nor_len z1; omega
    have o_N2 := hid (oks_nor O1)
    generalize e_N2 : nor z1 = L_N2 at h_N2 hc_N2 m_N2 o_N2 ⊢
    have E_N2 := hid e_N2
    clear e_N2 b4 h_N B3
    go_wp2_with fail
    refine (Same_yes _ _ _ _ _ _ _ _ _ h_N_1 h_N2 (by omega) (by omega) (by rw [← E_N2.out, ← E_N.out]; exact (same_iff z0 z1).1 ⟨x1.out, x2.out⟩)).mono ?_
    rintro e v5 ⟨rfl, q5⟩
    have B5 := Bl.q B4 q5
    clear q5 h_N_1 h_N2 B4
    go_wp2_with fail
    refine (awake_any _).mono ?_
    rintro e v6 ⟨rfl, b6⟩
    have B6 := Bl.trans B5 b6
    clear b6  B5
    go_wp2_with fail
    go_ret
    exact ⟨rfl, B6⟩

set_option maxRecDepth 100000 in
theorem lifted (os : Os) (started : os.Started) (H : Type) (enc : TypeId × Value → H) (F : Stop.Interp) :
    ReturnsInHanded {} Try.checked os 7 .any ((Rows.OpenSpec.upto Rows.spanUniqueSpec).pre6 enc Try.prog Try.f7 Rows.spanUniqueUptoRow.domain false) (((Rows.OpenSpec.upto Rows.spanUniqueSpec).at F).post enc Try.prog Try.f7 false true false false) := by
  refine returnsInHanded_of_cond (C := Try.checked) (s := Rows.OpenSpec.upto Rows.spanUniqueSpec) (k := Rows.uptoSmall) rfl own started (by kernel_rfl) Try.func7
    (OpenSpec.witness (enc := enc) (C := Try.checked) (s := Rows.OpenSpec.upto Rows.spanUniqueSpec) (k := Rows.uptoSmall) rfl false ⟨#[], #[.slice none 0 0, .slice none 0 0], []⟩ 8 (by kernel_rfl) (by kernel_rfl) (by kernel_rfl)
      (x := ([.nil, .nil], [], [])) (by kernel_rfl) rfl (by kernel_rfl)) ?_
  intro W base args ds gs before hval0 hW _ hk _
  have hval : ∀ (j : Nat) t v, Try.f7.params[j]? = some t → args[j]? = some v → Value.okWide Try.prog W .any base t v := hval0
  have hW' := hW
  obtain ⟨p, q, hA0, hV, rfl, hfz, hnd⟩ := hW
  have hA : DataW.TrodAll enc Try.prog W 0 (fun _ => true) true Try.f7.params.toList args.toList ds p := hA0
  rw [Try.params7] at hA hval
  obtain ⟨v0, vs0, d0, ds0, p0, q0, hargs, rfl, rfl, h0, r0⟩ := trodAll_cons hA
  obtain ⟨v1, vs1, d1, ds1, p1, q1, rfl, rfl, rfl, h1, r1⟩ := trodAll_cons r0
  obtain ⟨rfl, rfl, rfl⟩ := trodAll_nil r1
  obtain rfl : args = #[v0, v1] := by cases args; simp_all
  obtain ⟨rfl, rfl⟩ := trodVars_none hV
  have k0 := h0
  obtain ⟨a0, len0, cap0, z0, rfl, l0, m0, s0, O0, g0, f0, lt0⟩ := open_pairs Try.underlying22 Try.underlying34 (by kernel_rfl) ⟨rfl, rfl⟩ ⟨rfl, rfl⟩ (hval 0 22 v0 rfl rfl) h0
  have k1 := h1
  obtain ⟨a1, len1, cap1, z1, rfl, l1, m1, s1, O1, g1, f1, lt1⟩ := open_pairs Try.underlying22 Try.underlying34 (by kernel_rfl) ⟨rfl, rfl⟩ ⟨rfl, rfl⟩ (hval 1 22 v1 rfl rfl) h1
  have hbk : cap0 + cap1 ≤ 1048576 := by
    have h := of_decide_eq_true hk
    simp only [List.append_nil, List.cons_append, List.nil_append, Rows.uptoBulkAll] at h
    omega
  clear hA0 hval0
  refine (walk a0 len0 cap0 z0 a1 len1 cap1 z1 W s0 l0 O0 s1 l1 O1 hbk).mono fun e W' ⟨he, bel⟩ => ?_
  subst he
  exact ⟨_, rfl, _, _, _, [], _, [], hW', trodAll_mk1 (shut_bool Try.underlying4 _), (trodAll_cons_mk (Below.trod laidOut (by kernel_rfl) (of_decide_eq_true (by kernel_rfl)) k0 bel lt0) (trodAll_cons_mk (Below.trod laidOut (by kernel_rfl) (of_decide_eq_true (by kernel_rfl)) k1 bel lt1) trodAll_mk0)), rfl, Below.frame bel _, fun h => by cases h⟩

theorem holds : Rows.SpanUniqueUptoSaid :=
  OpenClaim.holds_of_cond 7 Try.f7 rfl rfl rfl rfl rfl rfl rfl ⟨rfl, rfl, rfl, rfl, rfl⟩ rfl rfl rfl rfl rfl (by kernel_rfl) Try.func7 (by kernel_rfl)
    (of_decide_eq_true (by kernel_rfl)) (by unfold Func.isWrapper; first | (rw [if_pos (by decide +kernel)]; kernel_rfl) | (rw [if_neg (by decide +kernel)]; exact ⟨rfl, rfl⟩))
    (fun os started H enc _ F => lifted os started H enc F)
end Go.Proofs.Ytdfnmohgkjonfaa.SpanUnique
