/- NumDivides returns true for every two integers: Floor, Ceil and Round return the quotients of the reference, and the remainders are on the right side. No condition. -/
import Derived.Test.YtjnlbgmfhomepaaRows
import Derived.ProofKit
import Derived.OpenShut
import Derived.ChangeOld
import Derived.Test.YtjnlbgmfhomepaaRefs
import Derived.Test.YtjnlbgmfhomepaaAwake
namespace Go.Proofs.Ytjnlbgmfhomepaa.NumDivides
open Go.ChangeShapes Go.WideShapes Go.ChangeAt Go.RowKit
open Go.Proofs.Ytjnlbgmfhomepaa.Num
set_option linter.unusedVariables false

theorem wf_okI {x : Int} (h : (Lit.int .i64 x).wf = true) : okI x := bounds_i64 h
theorem bad_err (a b : Int) (h : b = 0 ∨ (a = -9223372036854775808 ∧ b = -1)) : qe b (fl a b) ≠ 0 := by
  rcases h with rfl | ⟨rfl, rfl⟩
  · rw [qe_zero]; decide
  · decide
/-- the exact quotients of a division without an error -/
theorem good (a b : Int) (ha : okI a) (hbk : okI b) (h : ¬ (b = 0 ∨ (a = -9223372036854775808 ∧ b = -1))) :
    ∃ p c r t : Int, qv b (fl a b) = p ∧ qv b (cl a b) = c ∧ qv b (rd a b) = r ∧ qe b (fl a b) = 0 ∧ qe b (cl a b) = 0 ∧ qe b (rd a b) = 0 ∧ okI p ∧ okI c ∧ wrap64 (a - wrap64 (p * b)) = t ∧
      (0 < b → 0 ≤ t ∧ t < b) ∧ (b < 0 → b < t ∧ t ≤ 0) ∧ (t = 0 → c = p ∧ r = p) ∧ (t ≠ 0 → c = p + 1 ∧ (r = p ∨ r = p + 1)) ∧ b ≠ 0 := by
  have hb : b ≠ 0 := fun e => h (.inl e)
  have hab : -9223372036854775808 < a ∨ b ≠ -1 := by unfold okI at ha; omega
  have k1 := fl_ok a b ha hb hab
  obtain ⟨t, e1, e2, e3⟩ := fl_rest a b hb
  have em : fl a b * b = b * fl a b := Int.mul_comm _ _
  have hc : cl a b = if t = 0 then fl a b else fl a b + 1 := by
    unfold cl
    by_cases h0 : t = 0
    · rw [if_pos (by omega), if_pos h0]
    · rw [if_neg (by omega), if_neg h0]
  have k2 : okI (cl a b) := by
    have hd := td_ok a b ha hb hab
    by_cases h0 : a.tmod b = 0
    · rw [cl_zero a b hb h0]; exact hd
    · have := td_step a b ha hb h0
      by_cases h1 : (0 < b ∧ 0 < a.tmod b) ∨ (b < 0 ∧ a.tmod b < 0)
      · rw [cl_same a b hb h1]; unfold okI; omega
      · obtain ⟨_, tp, tn, _⟩ := tm_spec a b hb
        rw [cl_less a b hb (by omega)]; exact hd
  have hr : (t = 0 → rd a b = fl a b) ∧ (t ≠ 0 → rd a b = fl a b ∨ rd a b = fl a b + 1) := by
    constructor
    · intro h0
      exact rd_of a b _ b hb (by omega) (by omega) (by omega)
    · intro h0
      by_cases h1 : (0 < b ∧ 2 * t < b) ∨ (b < 0 ∧ b < 2 * t)
      · exact .inl (rd_of a b _ (2 * t + b) hb (by omega) (by omega) (by omega))
      · exact .inr (rd_of a b _ (2 * t - b) hb (by rw [Int.mul_add]; omega) (by omega) (by omega))
  have k3 : okI (rd a b) := by
    by_cases h0 : t = 0
    · rw [hr.1 h0]; exact k1
    · rw [if_neg h0] at hc
      rw [hc] at k2
      rcases hr.2 h0 with g | g <;> rw [g]
      · exact k1
      · exact k2
  refine ⟨_, _, _, t, qv_ok hb k1, qv_ok hb k2, qv_ok hb k3, qe_ok hb k1, qe_ok hb k2, qe_ok hb k3, k1, k2, ?_, e2, e3, fun h0 => ⟨by rw [hc, if_pos h0], hr.1 h0⟩, fun h0 => ⟨by rw [hc, if_neg h0], hr.2 h0⟩, hb⟩
  unfold okI at ha hbk
  unfold wrap64
  omega

set_option maxRecDepth 100000 in
set_option maxHeartbeats 2000000 in
theorem walk (a b : Int) (ha : okI a) (hb : okI b) (w : World) :
    Calls Try.prog 3 #[.int .i64 a, .int .i64 b] w fun e w' => e = .returned (.bool true) ∧ Bl w w' := by
  have c1 := hid (fun w => floor_any a b w ha hb)
  have c2 := hid (fun w => ceil_any a b w ha hb)
  have c3 := hid (fun w => round_any a b w ha hb)
  have c4 := hid (fun w => rfloor_any a b w ha hb)
  have c5 := hid (fun w => rceil_any a b w ha hb)
  have c6 := hid (fun w => rround_any a b w ha hb)
  by_cases hbad : b = 0 ∨ (a = -9223372036854775808 ∧ b = -1)
  · have he := bad_err a b hbad
    generalize qe b (fl a b) = E1 at *
    generalize qe b (cl a b) = E2 at *
    generalize qe b (rd a b) = E3 at *
    generalize qv b (fl a b) = P at *
    generalize qv b (cl a b) = C at *
    generalize qv b (rd a b) = R at *
    have g : (E1 != 0) = true := by rw [bne_iff_ne]; exact he
    clear hbad he
    go_enter Try.func3, Try.ntmps3
    go_wp2_with fail
    refine (c1.out _).mono ?_
    rintro e w' ⟨rfl, n1, rfl⟩
    go_wp2_with fail
    refine (c2.out _).mono ?_
    rintro e w' ⟨rfl, n2, rfl⟩
    go_wp2_with fail
    refine (c3.out _).mono ?_
    rintro e w' ⟨rfl, n3, rfl⟩
    go_wp2_with fail
    refine (c4.out _).mono ?_
    rintro e w' ⟨rfl, n4, rfl⟩
    go_wp2_with fail
    refine (c5.out _).mono ?_
    rintro e w' ⟨rfl, n5, rfl⟩
    go_wp2_with fail
    refine (c6.out _).mono ?_
    rintro e w' ⟨rfl, n6, rfl⟩
    go_wp2_with fail
    refine (awake_any _).mono ?_
    rintro e w1 ⟨rfl, hw⟩
    go_wp2_with fail
    go_ret
    exact ⟨rfl, Bl.trans (Bl.drewN (Bl.refl _) _) hw⟩
  · obtain ⟨p, c, r, t, e1, e2, e3, e4, e5, e6, okp, okc, ht, hp, hn, hz, hnz, hb0⟩ := good a b ha hb hbad
    rw [e1, e4] at c1 c4
    rw [e2, e5] at c2 c5
    rw [e3, e6] at c3 c6
    clear e1 e2 e3 e4 e5 e6 hbad
    unfold okI at ha hb okp okc
    by_cases h0 : t = 0
    · obtain ⟨rfl, rfl⟩ := hz h0
      subst h0
      clear hz hnz
      have hpn : 0 < b ∨ b < 0 := by omega
      rcases hpn with hs | hs
      · have d1 : decide (0 < b) = true := decide_eq_true hs
        have d2 : decide (b < 0) = false := decide_eq_false (by omega)
        have hr := hp hs
        clear hp hn hb0
        
        go_enter Try.func3, Try.ntmps3
        go_wp2_with fail
        refine (c1.out _).mono ?_
        rintro e w' ⟨rfl, n1, rfl⟩
        go_wp2_with fail
        refine (c2.out _).mono ?_
        rintro e w' ⟨rfl, n2, rfl⟩
        go_wp2_with fail
        refine (c3.out _).mono ?_
        rintro e w' ⟨rfl, n3, rfl⟩
        go_wp2_with fail
        refine (c4.out _).mono ?_
        rintro e w' ⟨rfl, n4, rfl⟩
        go_wp2_with fail
        refine (c5.out _).mono ?_
        rintro e w' ⟨rfl, n5, rfl⟩
        go_wp2_with fail
        refine (c6.out _).mono ?_
        rintro e w' ⟨rfl, n6, rfl⟩
        go_wp2_with fail
        refine (awake_any _).mono ?_
        rintro e w1 ⟨rfl, hw⟩
        go_wp2_with fail
        go_ret
        exact ⟨rfl, Bl.trans (Bl.drewN (Bl.refl _) _) hw⟩
      · have d1 : decide (0 < b) = false := decide_eq_false (by omega)
        have d2 : decide (b < 0) = true := decide_eq_true hs
        have hr := hn hs
        clear hp hn hb0
        
        go_enter Try.func3, Try.ntmps3
        go_wp2_with fail
        refine (c1.out _).mono ?_
        rintro e w' ⟨rfl, n1, rfl⟩
        go_wp2_with fail
        refine (c2.out _).mono ?_
        rintro e w' ⟨rfl, n2, rfl⟩
        go_wp2_with fail
        refine (c3.out _).mono ?_
        rintro e w' ⟨rfl, n3, rfl⟩
        go_wp2_with fail
        refine (c4.out _).mono ?_
        rintro e w' ⟨rfl, n4, rfl⟩
        go_wp2_with fail
        refine (c5.out _).mono ?_
        rintro e w' ⟨rfl, n5, rfl⟩
        go_wp2_with fail
        refine (c6.out _).mono ?_
        rintro e w' ⟨rfl, n6, rfl⟩
        go_wp2_with fail
        refine (awake_any _).mono ?_
        rintro e w1 ⟨rfl, hw⟩
        go_wp2_with fail
        go_ret
        exact ⟨rfl, Bl.trans (Bl.drewN (Bl.refl _) _) hw⟩
    · obtain ⟨rfl, hr2⟩ := hnz h0
      have z1 : (t == 0) = false := by rw [beq_eq_false_iff_ne]; exact h0
      have z2 : (t != 0) = true := by rw [bne_iff_ne]; exact h0
      clear hz hnz h0
      rcases hr2 with rfl | rfl
      · have hpn : 0 < b ∨ b < 0 := by omega
        rcases hpn with hs | hs
        · have d1 : decide (0 < b) = true := decide_eq_true hs
          have d2 : decide (b < 0) = false := decide_eq_false (by omega)
          have hr := hp hs
          clear hp hn hb0
          
          go_enter Try.func3, Try.ntmps3
          go_wp2_with fail
          refine (c1.out _).mono ?_
          rintro e w' ⟨rfl, n1, rfl⟩
          go_wp2_with fail
          refine (c2.out _).mono ?_
          rintro e w' ⟨rfl, n2, rfl⟩
          go_wp2_with fail
          refine (c3.out _).mono ?_
          rintro e w' ⟨rfl, n3, rfl⟩
          go_wp2_with fail
          refine (c4.out _).mono ?_
          rintro e w' ⟨rfl, n4, rfl⟩
          go_wp2_with fail
          refine (c5.out _).mono ?_
          rintro e w' ⟨rfl, n5, rfl⟩
          go_wp2_with fail
          refine (c6.out _).mono ?_
          rintro e w' ⟨rfl, n6, rfl⟩
          go_wp2_with fail
          refine (awake_any _).mono ?_
          rintro e w1 ⟨rfl, hw⟩
          go_wp2_with fail
          go_ret
          exact ⟨rfl, Bl.trans (Bl.drewN (Bl.refl _) _) hw⟩
        · have d1 : decide (0 < b) = false := decide_eq_false (by omega)
          have d2 : decide (b < 0) = true := decide_eq_true hs
          have hr := hn hs
          clear hp hn hb0
          
          go_enter Try.func3, Try.ntmps3
          go_wp2_with fail
          refine (c1.out _).mono ?_
          rintro e w' ⟨rfl, n1, rfl⟩
          go_wp2_with fail
          refine (c2.out _).mono ?_
          rintro e w' ⟨rfl, n2, rfl⟩
          go_wp2_with fail
          refine (c3.out _).mono ?_
          rintro e w' ⟨rfl, n3, rfl⟩
          go_wp2_with fail
          refine (c4.out _).mono ?_
          rintro e w' ⟨rfl, n4, rfl⟩
          go_wp2_with fail
          refine (c5.out _).mono ?_
          rintro e w' ⟨rfl, n5, rfl⟩
          go_wp2_with fail
          refine (c6.out _).mono ?_
          rintro e w' ⟨rfl, n6, rfl⟩
          go_wp2_with fail
          refine (awake_any _).mono ?_
          rintro e w1 ⟨rfl, hw⟩
          go_wp2_with fail
          go_ret
          exact ⟨rfl, Bl.trans (Bl.drewN (Bl.refl _) _) hw⟩
      · have hpn : 0 < b ∨ b < 0 := by omega
        rcases hpn with hs | hs
        · have d1 : decide (0 < b) = true := decide_eq_true hs
          have d2 : decide (b < 0) = false := decide_eq_false (by omega)
          have hr := hp hs
          clear hp hn hb0
          
          go_enter Try.func3, Try.ntmps3
          go_wp2_with fail
          refine (c1.out _).mono ?_
          rintro e w' ⟨rfl, n1, rfl⟩
          go_wp2_with fail
          refine (c2.out _).mono ?_
          rintro e w' ⟨rfl, n2, rfl⟩
          go_wp2_with fail
          refine (c3.out _).mono ?_
          rintro e w' ⟨rfl, n3, rfl⟩
          go_wp2_with fail
          refine (c4.out _).mono ?_
          rintro e w' ⟨rfl, n4, rfl⟩
          go_wp2_with fail
          refine (c5.out _).mono ?_
          rintro e w' ⟨rfl, n5, rfl⟩
          go_wp2_with fail
          refine (c6.out _).mono ?_
          rintro e w' ⟨rfl, n6, rfl⟩
          go_wp2_with fail
          refine (awake_any _).mono ?_
          rintro e w1 ⟨rfl, hw⟩
          go_wp2_with fail
          go_ret
          exact ⟨rfl, Bl.trans (Bl.drewN (Bl.refl _) _) hw⟩
        · have d1 : decide (0 < b) = false := decide_eq_false (by omega)
          have d2 : decide (b < 0) = true := decide_eq_true hs
          have hr := hn hs
          clear hp hn hb0
          
          go_enter Try.func3, Try.ntmps3
          go_wp2_with fail
          refine (c1.out _).mono ?_
          rintro e w' ⟨rfl, n1, rfl⟩
          go_wp2_with fail
          refine (c2.out _).mono ?_
          rintro e w' ⟨rfl, n2, rfl⟩
          go_wp2_with fail
          refine (c3.out _).mono ?_
          rintro e w' ⟨rfl, n3, rfl⟩
          go_wp2_with fail
          refine (c4.out _).mono ?_
          rintro e w' ⟨rfl, n4, rfl⟩
          go_wp2_with fail
          refine (c5.out _).mono ?_
          rintro e w' ⟨rfl, n5, rfl⟩
          go_wp2_with fail
          refine (c6.out _).mono ?_
          rintro e w' ⟨rfl, n6, rfl⟩
          go_wp2_with fail
          refine (awake_any _).mono ?_
          rintro e w1 ⟨rfl, hw⟩
          go_wp2_with fail
          go_ret
          exact ⟨rfl, Bl.trans (Bl.drewN (Bl.refl _) _) hw⟩

theorem own : ownKnob Try.prog.godebug = none := by kernel_rfl

set_option maxRecDepth 100000 in
theorem lifted (os : Os) (started : os.Started) (H : Type) (enc : TypeId × Value → H) :
    ReturnsInHanded {} Try.checked os 3 .any (Rows.numDividesSpec.pre6 enc Try.prog Try.f3 Rows.numDividesRow.domain false) (Rows.numDividesSpec.post enc Try.prog Try.f3 false true false false) := by
  refine returnsInHanded_of_change (C := Try.checked) own started (by kernel_rfl) Try.func3
    (ChangeSpec.witness6 (enc := enc) (C := Try.checked) false ⟨#[], #[.int .i64 0, .int .i64 0], []⟩ 8 (by kernel_rfl) (by kernel_rfl) (by kernel_rfl) (by kernel_rfl)) ?_
  intro W base args ds gs before hval0 hW hcnd _
  have hval : ∀ (j : Nat) t v, Try.f3.params[j]? = some t → args[j]? = some v → Value.okWide Try.prog W .any base t v := hval0
  have hW' := hW
  obtain ⟨p, q, hA0, hV, rfl, hfz, hnd⟩ := hW
  have hA : DataW.TrodAll enc Try.prog W 0 (fun _ => true) true Try.f3.params.toList args.toList ds p := hA0
  rw [Try.params3] at hA hval
  obtain ⟨v0, vs0, d0, ds0, p0, q0, hargs, rfl, rfl, h0, r0⟩ := trodAll_cons hA
  obtain ⟨v1, vs1, d1, ds1, p1, q1, rfl, rfl, rfl, h1, r1⟩ := trodAll_cons r0
  obtain ⟨rfl, rfl, rfl⟩ := trodAll_nil r1
  obtain rfl : args = #[v0, v1] := by cases args; simp_all
  obtain ⟨rfl, rfl⟩ := trodVars_none hV
  obtain ⟨a0, rfl, rfl, rfl, w0⟩ := open_int Try.underlying3 (hval 0 3 v0 rfl rfl) h0
  obtain ⟨a1, rfl, rfl, rfl, w1⟩ := open_int Try.underlying3 (hval 1 3 v1 rfl rfl) h1
  clear hA0 hval0
  refine (walk a0 a1 (wf_okI w0) (wf_okI w1) W).mono fun e W' ⟨he, hg⟩ => ?_
  subst he
  exact ⟨_, rfl, _, _, _, [], _, [], hW', trodAll_mk1 (shut_bool Try.underlying4 _), (trodAll_cons_mk (shut_int Try.underlying3 w0) (trodAll_cons_mk (shut_int Try.underlying3 w1) trodAll_mk0)), rfl, hg.frame _, fun h => by cases h⟩

theorem holds : Rows.NumDividesSaid :=
  OpenClaim.holds_of_wide 3 Try.f3 rfl rfl rfl rfl rfl rfl rfl ⟨rfl, rfl, rfl, rfl, rfl⟩ rfl rfl rfl rfl rfl (by kernel_rfl) Try.func3 (by kernel_rfl)
    (of_decide_eq_true (by kernel_rfl)) (by unfold Func.isWrapper; first | (rw [if_pos (by decide +kernel)]; kernel_rfl) | (rw [if_neg (by decide +kernel)]; exact ⟨rfl, rfl⟩))
    (fun os started H enc _ => lifted os started H enc)
end Go.Proofs.Ytjnlbgmfhomepaa.NumDivides
