/- IdsetMembers returns true for every two lists and integer: membership is as the definition says. No condition beyond the form's own reach. -/
import Derived.Test.YtofjfnpfcibbeaaIAwake
import Derived.Test.YtofjfnpfcibbeaaIOks
import Derived.Test.YtofjfnpfcibbeaaWArgs
namespace Go.Proofs.Ytofjfnpfcibbeaa.IdsetMembers
open Go.ChangeShapes Go.WideShapes Go.ChangeAt Go.RowKit
open Go.ChangeMaps (open_string shut_string)
open Go.Proofs.Ytofjfnpfcibbeaa.Wire
open Go.Proofs.Ytofjfnpfcibbeaa.Idset
set_option linter.unusedVariables false
set_option linter.unusedSimpArgs false

set_option maxRecDepth 100000 in
set_option maxHeartbeats 4000000 in
theorem walk (a0 : Option Addr) (len0 cap0 : Nat) (z0 : List Int) (a1 : Option Addr) (len1 cap1 : Nat) (z1 : List Int) (a2 : Int) (w : World) (s0 : Sh w w.heap.size .i64 a0 len0 z0) (l0 : len0 ≤ cap0) (w0 : ∀ n ∈ z0, (Lit.int .i64 n).wf = true) (b0 : cap0 * 8 ≤ 140737488351232) (s1 : Sh w w.heap.size .i64 a1 len1 z1) (l1 : len1 ≤ cap1) (w1 : ∀ n ∈ z1, (Lit.int .i64 n).wf = true) (b1 : cap1 * 8 ≤ 140737488351232) (w2 : (Lit.int .i64 a2).wf = true) :
    Calls Try.prog 6 #[.slice a0 len0 cap0, .slice a1 len1 cap1, .int .i64 a2] w fun e w' => e = .returned (.bool true) ∧ Bl w w' := by
  have O0 : oks z0 := fun x hx => wf_i64 (w0 x hx)
  have e0 := s0.len
  have O1 : oks z1 := fun x hx => wf_i64 (w1 x hx)
  have e1 := s1.len
  have N2 := wf_i64 w2
  by_cases few : len0 ≤ 100 ∧ len1 ≤ 100
  · obtain ⟨f0, f1⟩ := few
    have g0 : z0.length ≤ 100 := by omega
    have g1 : z1.length ≤ 100 := by omega
    have H0 := hid e0
    have H1 := hid e1
    clear e0 e1 w0 w1
    have ha := hid (fun w' hs => Has_any a0 len0 cap0 z0 a2 w' hs l0 O0 N2.1 N2.2 (by omega))
    have hb := hid (fun w' hs => Has_any a1 len1 cap1 z1 a2 w' hs l1 O1 N2.1 N2.2 (by omega))
    cases ea : hasb z0 a2 <;> cases eb : hasb z1 a2
    all_goals
      rw [ea] at ha
      rw [eb] at hb
      have xa := hid ea
      have xb := hid eb
      clear ea eb
      go_enter Try.func6, Try.ntmps6
      go_wp2_with fail
      refine (few_yes _ _ _ _ _ _ _ _ _ _ (by omega) (by omega) (by omega)).mono ?_
      rintro e w' ⟨rfl, rfl⟩
      go_wp2_with fail
      refine (ha.out _ s0).mono ?_
      rintro e v1 ⟨rfl, b1⟩
      have B1 := Bl.trans (Bl.refl _) b1
      clear b1
      go_wp2_with fail
      refine (hb.out _ (s1.bl B1)).mono ?_
      rintro e v2 ⟨rfl, b2⟩
      have B2 := Bl.trans B1 b2
      clear b2  B1
      go_wp2_with fail
      refine (awake_any _).mono ?_
      rintro e v3 ⟨rfl, b3⟩
      have B3 := Bl.trans B2 b3
      clear b3  B2
      go_wp2_with fail
      refine (Union_any _ _ _ _ _ _ _ _ _ (s0.bl B3) (s1.bl B3) l0 l1 O0 O1 (by omega) (by omega)).mono ?_
      rintro e v4 ⟨A_U0, c_U0, rfl, h_U0, hc_U0, b4⟩
      have B4 := Bl.trans B3 b4
      have m_U0 : (uni z0 z1).length ≤ 200 := by have := uni_len z0 z1; omega
      have o_U0 := hid (oks_uni O0 O1)
      generalize e_U0 : uni z0 z1 = L_U0 at h_U0 hc_U0 m_U0 o_U0 ⊢
      have E_U0 := hid e_U0
      clear e_U0 b4  B3
      have p0 := Has_any _ _ _ _ a2 _ h_U0 hc_U0 o_U0.out N2.1 N2.2 (by omega)
      have t0 := has_uni z0 z1 a2
      rw [E_U0.out, xa.out, xb.out] at t0
      rw [t0] at p0
      simp only [Bool.or_true, Bool.or_false, Bool.and_true, Bool.and_false, Bool.not_true, Bool.not_false] at p0
      clear t0
      have P0 := hid p0
      clear p0
      go_wp2_with fail
      refine (P0.out).mono ?_
      rintro e v5 ⟨rfl, b5⟩
      have B5 := Bl.trans B4 b5
      clear b5 h_U0 B4
      go_wp2_with fail
      refine (Inter_any _ _ _ _ _ _ _ _ _ (s0.bl B5) (s1.bl B5) l0 l1 O0 O1 (by omega) (by omega)).mono ?_
      rintro e v6 ⟨A_U1, c_U1, rfl, h_U1, hc_U1, b6⟩
      have B6 := Bl.trans B5 b6
      have m_U1 : (int z0 z1).length ≤ 100 := by have := int_len z0 z1; omega
      have o_U1 := hid (oks_int O0 O1)
      generalize e_U1 : int z0 z1 = L_U1 at h_U1 hc_U1 m_U1 o_U1 ⊢
      have E_U1 := hid e_U1
      clear e_U1 b6  B5
      have p1 := Has_any _ _ _ _ a2 _ h_U1 hc_U1 o_U1.out N2.1 N2.2 (by omega)
      have t1 := has_int z0 z1 a2
      rw [E_U1.out, xa.out, xb.out] at t1
      rw [t1] at p1
      simp only [Bool.or_true, Bool.or_false, Bool.and_true, Bool.and_false, Bool.not_true, Bool.not_false] at p1
      clear t1
      have P1 := hid p1
      clear p1
      go_wp2_with fail
      refine (P1.out).mono ?_
      rintro e v7 ⟨rfl, b7⟩
      have B7 := Bl.trans B6 b7
      clear b7 h_U1 B6
      go_wp2_with fail
      refine (Minus_any _ _ _ _ _ _ _ _ _ (s0.bl B7) (s1.bl B7) l0 l1 O0 O1 (by omega) (by omega)).mono ?_
      rintro e v8 ⟨A_U2, c_U2, rfl, h_U2, hc_U2, b8⟩
      have B8 := Bl.trans B7 b8
      have m_U2 : (mns z0 z1).length ≤ 100 := by have := mns_len z0 z1; omega
      have o_U2 := hid (oks_mns O0 O1)
      generalize e_U2 : mns z0 z1 = L_U2 at h_U2 hc_U2 m_U2 o_U2 ⊢
      have E_U2 := hid e_U2
      clear e_U2 b8  B7
      have p2 := Has_any _ _ _ _ a2 _ h_U2 hc_U2 o_U2.out N2.1 N2.2 (by omega)
      have t2 := has_mns z0 z1 a2
      rw [E_U2.out, xa.out, xb.out] at t2
      rw [t2] at p2
      simp only [Bool.or_true, Bool.or_false, Bool.and_true, Bool.and_false, Bool.not_true, Bool.not_false] at p2
      clear t2
      have P2 := hid p2
      clear p2
      go_wp2_with fail
      refine (P2.out).mono ?_
      rintro e v9 ⟨rfl, b9⟩
      have B9 := Bl.trans B8 b9
      clear b9 h_U2 B8
      go_wp2_with fail
      go_ret
      exact ⟨rfl, B9⟩
  · clear e0 O0 e1 O1
    go_enter Try.func6, Try.ntmps6
    go_wp2_with fail
    refine (few_no _ _ _ _ _ _ _ _ _ _ (by omega)).mono ?_
    rintro e w' ⟨rfl, rfl⟩
    go_wp2_with fail
    refine (awake_any _).mono ?_
    rintro e v1 ⟨rfl, b1⟩
    have B1 := Bl.trans (Bl.refl _) b1
    clear b1
    go_wp2_with fail
    go_ret
    exact ⟨rfl, B1⟩

set_option maxRecDepth 100000 in
theorem lifted (os : Os) (started : os.Started) (H : Type) (enc : TypeId × Value → H) :
    ReturnsInHanded {} Try.checked os 6 .any (Rows.idsetMembersSpec.pre6 enc Try.prog Try.f6 Rows.idsetMembersRow.domain false) (Rows.idsetMembersSpec.post enc Try.prog Try.f6 false true false false) := by
  refine returnsInHanded_of_change_sized (C := Try.checked) own started (by kernel_rfl) Try.func6
    (ChangeSpec.witness6 (enc := enc) (C := Try.checked) false ⟨#[], #[.slice none 0 0, .slice none 0 0, .int .i64 0], []⟩ 8 (by kernel_rfl) (by kernel_rfl) (by kernel_rfl) (by kernel_rfl)) ?_
  intro W base args ds gs before hval0 hW _ hsz0 _
  have hsz : (DataW.weightsEach Try.prog (Try.f6.params.toList ++ Rows.idsetMembersSpec.plain.varTypes Try.prog) (ds ++ gs)).all (· ≤ reachBytes) = true := hsz0
  have hval : ∀ (j : Nat) t v, Try.f6.params[j]? = some t → args[j]? = some v → Value.okWide Try.prog W .any base t v := hval0
  have hW' := hW
  obtain ⟨p, q, hA0, hV, rfl, hfz, hnd⟩ := hW
  have hA : DataW.TrodAll enc Try.prog W 0 (fun _ => true) true Try.f6.params.toList args.toList ds p := hA0
  rw [Try.params6] at hA hval hsz
  obtain ⟨v0, vs0, d0, ds0, p0, q0, hargs, rfl, rfl, h0, r0⟩ := trodAll_cons hA
  obtain ⟨v1, vs1, d1, ds1, p1, q1, rfl, rfl, rfl, h1, r1⟩ := trodAll_cons r0
  obtain ⟨v2, vs2, d2, ds2, p2, q2, rfl, rfl, rfl, h2, r2⟩ := trodAll_cons r1
  obtain ⟨rfl, rfl, rfl⟩ := trodAll_nil r2
  obtain rfl : args = #[v0, v1, v2] := by cases args; simp_all
  obtain ⟨rfl, rfl⟩ := trodVars_none hV
  have k0 := h0
  obtain ⟨a0, len0, cap0, z0, rfl, l0, m0, n0, s0, w0, f0, lt0⟩ := open_row Try.underlying22 Try.underlying3 (by kernel_rfl) (hval 0 22 v0 rfl rfl) h0
  have b0 := reach_row hsz (j := 0) (t := 22) (e := 3) 8 rfl rfl Try.underlying22 (by kernel_rfl) n0 l0 f0
  have k1 := h1
  obtain ⟨a1, len1, cap1, z1, rfl, l1, m1, n1, s1, w1, f1, lt1⟩ := open_row Try.underlying22 Try.underlying3 (by kernel_rfl) (hval 1 22 v1 rfl rfl) h1
  have b1 := reach_row hsz (j := 1) (t := 22) (e := 3) 8 rfl rfl Try.underlying22 (by kernel_rfl) n1 l1 f1
  obtain ⟨a2, rfl, rfl, rfl, w2⟩ := open_int Try.underlying3 (hval 2 3 v2 rfl rfl) h2
  clear hA0 hval0
  refine (walk a0 len0 cap0 (z0.take len0) a1 len1 cap1 (z1.take len1) a2 W s0 l0 (fun n hn => w0 n (List.mem_of_mem_take hn)) b0 s1 l1 (fun n hn => w1 n (List.mem_of_mem_take hn)) b1 w2).mono fun e W' ⟨he, bel⟩ => ?_
  subst he
  exact ⟨_, rfl, _, _, _, [], _, [], hW', trodAll_mk1 (shut_bool Try.underlying4 _), (trodAll_cons_mk (Below.trod laidOut (by kernel_rfl) (of_decide_eq_true (by kernel_rfl)) k0 bel lt0) (trodAll_cons_mk (Below.trod laidOut (by kernel_rfl) (of_decide_eq_true (by kernel_rfl)) k1 bel lt1) (trodAll_cons_mk (shut_int Try.underlying3 w2) trodAll_mk0))), rfl, Below.frame bel _, fun h => by cases h⟩

theorem holds : Rows.IdsetMembersSaid :=
  OpenClaim.holds_of_wide 6 Try.f6 rfl rfl rfl rfl rfl rfl rfl ⟨rfl, rfl, rfl, rfl, rfl⟩ rfl rfl rfl rfl rfl (by kernel_rfl) Try.func6 (by kernel_rfl)
    (of_decide_eq_true (by kernel_rfl)) (by unfold Func.isWrapper; first | (rw [if_pos (by decide +kernel)]; kernel_rfl) | (rw [if_neg (by decide +kernel)]; exact ⟨rfl, rfl⟩))
    (fun os started H enc _ => lifted os started H enc)
end Go.Proofs.Ytofjfnpfcibbeaa.IdsetMembers
