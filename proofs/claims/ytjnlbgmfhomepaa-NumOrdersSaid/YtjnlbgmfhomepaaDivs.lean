/- Contracts of Floor, Ceil and Round of layer 1 (num) and of its reference. -/
import Derived.Test.YtjnlbgmfhomepaaBase
namespace Go.Proofs.Ytjnlbgmfhomepaa.Num
open Go.RowKit
set_option linter.unusedVariables false

/-- the quotient and the error of a division with result x -/
def qv (b x : Int) : Int := if b = 0 then 0 else rv x
def qe (b x : Int) : Int := if b = 0 then 21 else re x
theorem qv_zero (x : Int) : qv 0 x = 0 := rfl
theorem qe_zero (x : Int) : qe 0 x = 21 := rfl
theorem qv_ok {b x : Int} (hb : b ≠ 0) (h : okI x) : qv b x = x := by rw [qv, if_neg hb, rv_ok h]
theorem qe_ok {b x : Int} (hb : b ≠ 0) (h : okI x) : qe b x = 0 := by rw [qe, if_neg hb, re_ok h]

theorem ret3 {i j k : IntKind} {a b c d x y : Int} (h : a = b) (g : c = d) (l : x = y) : Ending.returned (.tuple #[.int i a, .int j c, .int k x]) = .returned (.tuple #[.int i b, .int j d, .int k y]) := by rw [h, g, l]
theorem w64 {x : Int} (h : okI x) : wrap64 x = x := by unfold okI at h; unfold wrap64; omega
theorem i64w {x : Int} (h : okI x) : IntKind.i64.wrap x = x := by unfold okI at h; rw [IntKind.wrap_i64]; omega

set_option maxHeartbeats 400000 in
theorem divide_zero (a : Int) (w : World) :
    Calls Try.prog 28 #[.int .i64 a, .int .i64 0] w fun e w' => e = .returned (.tuple #[.int .i64 0, .int .i64 0, .int .i64 21]) ∧ Q w w' := by
  go_enter Try.func28, Try.ntmps28
  go_wp2
  go_ret3
  exact ⟨rfl, Q.refl _⟩
set_option maxRecDepth 100000 in
set_option maxHeartbeats 400000 in
theorem divide_over (w : World) :
    Calls Try.prog 28 #[.int .i64 (-9223372036854775808), .int .i64 (-1)] w fun e w' => e = .returned (.tuple #[.int .i64 0, .int .i64 0, .int .i64 15]) ∧ Q w w' := by
  go_enter Try.func28, Try.ntmps28
  go_wp2
  go_ret3
  exact ⟨rfl, Q.refl _⟩
set_option maxRecDepth 100000 in
set_option maxHeartbeats 400000 in
theorem divide_ok (a b : Int) (w : World) (ha : okI a) (hb0 : okI b) (hb : b ≠ 0) (hab : -9223372036854775808 < a ∨ b ≠ -1) :
    Calls Try.prog 28 #[.int .i64 a, .int .i64 b] w fun e w' => e = .returned (.tuple #[.int .i64 (a.tdiv b), .int .i64 (a.tmod b), .int .i64 0]) ∧ Q w w' := by
  have z : (b == 0) = false := by rw [beq_eq_false_iff_ne]; exact hb
  have hd := hid (w64 (td_ok a b ha hb hab))
  unfold okI at ha hb0
  by_cases h1 : -9223372036854775808 < a
  · have y : (a == -9223372036854775808) = false := by rw [beq_eq_false_iff_ne]; omega
    go_enter Try.func28, Try.ntmps28
    go_wp2
    go_quiet (fail)
    go_wp2
    go_ret3
    exact ⟨ret3 hd.out rfl rfl, Q.drewN (Q.refl _) _⟩
  · have y : (a == -9223372036854775808) = true := by rw [beq_iff_eq]; omega
    have x : (b == -1) = false := by rw [beq_eq_false_iff_ne]; omega
    go_enter Try.func28, Try.ntmps28
    go_wp2
    go_quiet (fail)
    go_wp2
    go_ret3
    exact ⟨ret3 hd.out rfl rfl, Q.drewN (Q.refl _) _⟩

set_option maxRecDepth 100000 in
set_option maxHeartbeats 400000 in
theorem floor_any (a b : Int) (w : World) (ha : okI a) (hb0 : okI b) :
    Calls Try.prog 11 #[.int .i64 a, .int .i64 b] w fun e w' => e = .returned (.tuple #[.int .i64 (qv b (fl a b)), .int .i64 (qe b (fl a b))]) ∧ Q w w' := by
  by_cases hb : b = 0
  · subst hb
    go_enter Try.func11, Try.ntmps11
    go_wp2_with (go_at_call 28; refine (divide_zero _ _).mono ?_; rintro e w' ⟨rfl, n, rfl⟩)
    go_ret2
    exact ⟨ret2 rfl rfl, Q.drewN (Q.refl _) _⟩
  by_cases hov : a = -9223372036854775808 ∧ b = -1
  · obtain ⟨rfl, rfl⟩ := hov
    go_enter Try.func11, Try.ntmps11
    go_wp2_with (go_at_call 28; refine (divide_over _).mono ?_; rintro e w' ⟨rfl, n, rfl⟩)
    go_ret2
    exact ⟨ret2 (by decide) (by decide), Q.drewN (Q.refl _) _⟩
  have hab : -9223372036854775808 < a ∨ b ≠ -1 := by unfold okI at ha; omega
  have hok := hid (fl_ok a b ha hb hab)
  have hc := hid (fun w => divide_ok a b w ha hb0 hb hab)
  have hd := td_ok a b ha hb hab
  unfold okI at hd
  have hqv := hid (qv_ok hb hok.out)
  have hqe := hid (qe_ok hb hok.out)
  by_cases h0 : a.tmod b = 0
  · have hf := hid (fl_same a b hb (.inl h0))
    have g0 : (a.tmod b != 0) = false := by rw [bne_eq_false_iff_eq]; exact h0
    clear h0 hov hab hb ha hb0
    go_enter Try.func11, Try.ntmps11
    go_wp2_with (go_at_call 28; refine (hc.out _).mono ?_; rintro e w' ⟨rfl, n, rfl⟩)
    go_ret2
    exact ⟨ret2 (by rw [hqv.out, hf.out]) (by rw [hqe.out]), Q.drewN (Q.refl _) _⟩
  by_cases h1 : (0 < b ∧ 0 < a.tmod b) ∨ (b < 0 ∧ a.tmod b < 0)
  · have hf := hid (fl_same a b hb (.inr h1))
    have g0 : (a.tmod b != 0) = true := by rw [bne_iff_ne]; exact h0
    have g1 : (!(decide (a.tmod b < 0) == decide (b < 0))) = false := by rw [Bool.not_eq_false', beq_iff_eq, decide_eq_decide]; omega
    clear h0 hov hab hb ha hb0 h1
    go_enter Try.func11, Try.ntmps11
    go_wp2_with (go_at_call 28; refine (hc.out _).mono ?_; rintro e w' ⟨rfl, n, rfl⟩)
    go_ret2
    exact ⟨ret2 (by rw [hqv.out, hf.out]) (by rw [hqe.out]), Q.drewN (Q.refl _) _⟩
  · have hf := hid (fl_less a b hb (by omega))
    have g0 : (a.tmod b != 0) = true := by rw [bne_iff_ne]; exact h0
    have g1 : (!(decide (a.tmod b < 0) == decide (b < 0))) = true := by rw [Bool.not_eq_true', beq_eq_false_iff_ne, ne_eq, decide_eq_decide]; omega
    have g2 := hok.out
    rw [hf.out] at g2
    unfold okI at g2
    clear h0 hov hab hb ha hb0 h1
    go_enter Try.func11, Try.ntmps11
    go_wp2_with (go_at_call 28; refine (hc.out _).mono ?_; rintro e w' ⟨rfl, n, rfl⟩)
    go_ret2
    exact ⟨ret2 (by rw [hqv.out, hf.out]) (by rw [hqe.out]), Q.drewN (Q.refl _) _⟩

set_option maxRecDepth 100000 in
set_option maxHeartbeats 400000 in
theorem ceil_any (a b : Int) (w : World) (ha : okI a) (hb0 : okI b) :
    Calls Try.prog 12 #[.int .i64 a, .int .i64 b] w fun e w' => e = .returned (.tuple #[.int .i64 (qv b (cl a b)), .int .i64 (qe b (cl a b))]) ∧ Q w w' := by
  by_cases hb : b = 0
  · subst hb
    go_enter Try.func12, Try.ntmps12
    go_wp2_with (go_at_call 28; refine (divide_zero _ _).mono ?_; rintro e w' ⟨rfl, n, rfl⟩)
    go_ret2
    exact ⟨ret2 rfl rfl, Q.drewN (Q.refl _) _⟩
  by_cases hov : a = -9223372036854775808 ∧ b = -1
  · obtain ⟨rfl, rfl⟩ := hov
    go_enter Try.func12, Try.ntmps12
    go_wp2_with (go_at_call 28; refine (divide_over _).mono ?_; rintro e w' ⟨rfl, n, rfl⟩)
    go_ret2
    exact ⟨ret2 (by decide) (by decide), Q.drewN (Q.refl _) _⟩
  have hab : -9223372036854775808 < a ∨ b ≠ -1 := by unfold okI at ha; omega
  have hc := hid (fun w => divide_ok a b w ha hb0 hb hab)
  have hok := td_ok a b ha hb hab
  by_cases h0 : a.tmod b = 0
  · have hf := cl_zero a b hb h0
    rw [← hf] at hok
    have hqv := hid (qv_ok hb hok)
    have hqe := hid (qe_ok hb hok)
    have hf' := hid hf
    clear hf
    have hf := hf'
    clear hf'
    have g0 : (a.tmod b != 0) = false := by rw [bne_eq_false_iff_eq]; exact h0
    clear h0 hov hab hb ha hb0 hok
    go_enter Try.func12, Try.ntmps12
    go_wp2_with (go_at_call 28; refine (hc.out _).mono ?_; rintro e w' ⟨rfl, n, rfl⟩)
    go_ret2
    exact ⟨ret2 (by rw [hqv.out, hf.out]) (by rw [hqe.out]), Q.drewN (Q.refl _) _⟩
  have g0 : (a.tmod b != 0) = true := by rw [bne_iff_ne]; exact h0
  by_cases h1 : (0 < b ∧ 0 < a.tmod b) ∨ (b < 0 ∧ a.tmod b < 0)
  · have hf := hid (cl_same a b hb h1)
    have hs := td_step a b ha hb h0
    have hk : okI (cl a b) := by rw [hf.out]; unfold okI; omega
    have hqv := hid (qv_ok hb hk)
    have hqe := hid (qe_ok hb hk)
    have g1 : (decide (a.tmod b < 0) == decide (b < 0)) = true := by rw [beq_iff_eq, decide_eq_decide]; omega
    clear h0 hov hab hb ha hb0 h1 hok hk
    go_enter Try.func12, Try.ntmps12
    go_wp2_with (go_at_call 28; refine (hc.out _).mono ?_; rintro e w' ⟨rfl, n, rfl⟩)
    go_ret2
    exact ⟨ret2 (by rw [hqv.out, hf.out]) (by rw [hqe.out]), Q.drewN (Q.refl _) _⟩
  · have hf := hid (cl_less a b hb (by omega))
    have hk : okI (cl a b) := by rw [hf.out]; exact hok
    have hqv := hid (qv_ok hb hk)
    have hqe := hid (qe_ok hb hk)
    have g1 : (decide (a.tmod b < 0) == decide (b < 0)) = false := by rw [beq_eq_false_iff_ne, ne_eq, decide_eq_decide]; omega
    clear h0 hov hab hb ha hb0 h1 hok hk
    go_enter Try.func12, Try.ntmps12
    go_wp2_with (go_at_call 28; refine (hc.out _).mono ?_; rintro e w' ⟨rfl, n, rfl⟩)
    go_ret2
    exact ⟨ret2 (by rw [hqv.out, hf.out]) (by rw [hqe.out]), Q.drewN (Q.refl _) _⟩

set_option maxRecDepth 100000 in
set_option maxHeartbeats 1000000 in
theorem round_any (a b : Int) (w : World) (ha : okI a) (hb0 : okI b) :
    Calls Try.prog 13 #[.int .i64 a, .int .i64 b] w fun e w' => e = .returned (.tuple #[.int .i64 (qv b (rd a b)), .int .i64 (qe b (rd a b))]) ∧ Q w w' := by
  by_cases hb : b = 0
  · subst hb
    go_enter Try.func13, Try.ntmps13
    go_wp2_with (go_at_call 28; refine (divide_zero _ _).mono ?_; rintro e w' ⟨rfl, n, rfl⟩)
    go_ret2
    exact ⟨ret2 rfl rfl, Q.drewN (Q.refl _) _⟩
  by_cases hov : a = -9223372036854775808 ∧ b = -1
  · obtain ⟨rfl, rfl⟩ := hov
    go_enter Try.func13, Try.ntmps13
    go_wp2_with (go_at_call 28; refine (divide_over _).mono ?_; rintro e w' ⟨rfl, n, rfl⟩)
    go_ret2
    exact ⟨ret2 (by decide) (by decide), Q.drewN (Q.refl _) _⟩
  have hab : -9223372036854775808 < a ∨ b ≠ -1 := by unfold okI at ha; omega
  have hc := hid (fun w => divide_ok a b w ha hb0 hb hab)
  have hok := td_ok a b ha hb hab
  by_cases h0 : a.tmod b = 0
  · have hf := rd_zero a b hb h0
    rw [← hf] at hok
    have hqv := hid (qv_ok hb hok)
    have hqe := hid (qe_ok hb hok)
    have hf' := hid hf
    clear hf
    have hf := hf'
    clear hf'
    have g0 : (a.tmod b == 0) = true := by rw [beq_iff_eq]; exact h0
    clear h0 hov hab hb ha hb0 hok
    go_enter Try.func13, Try.ntmps13
    go_wp2_with (go_at_call 28; refine (hc.out _).mono ?_; rintro e w' ⟨rfl, n, rfl⟩)
    go_ret2
    exact ⟨ret2 (by rw [hqv.out, hf.out]) (by rw [hqe.out]), Q.drewN (Q.refl _) _⟩
  have g0 : (a.tmod b == 0) = false := by rw [beq_eq_false_iff_ne]; exact h0
  have hs := td_step a b ha hb h0
  obtain ⟨te, tp, tn, ts⟩ := tm_spec a b hb
  clear te ts
  have hr1 : -9223372036854775808 ≤ a.tmod b ∧ a.tmod b ≤ 9223372036854775807 := by unfold okI at hb0; omega
  obtain ⟨mr, hmre⟩ : ∃ m : Int, m = ((a.tmod b).natAbs : Int) := ⟨_, rfl⟩
  obtain ⟨mb, hmbe⟩ : ∃ m : Int, m = (b.natAbs : Int) := ⟨_, rfl⟩
  have hmr : ∀ w, Calls Try.prog 29 #[.int .i64 (a.tmod b)] w fun e w' => e = .returned (.int .u64 mr) ∧ w = w' := by rw [hmre]; exact fun w => magnitude_any (a.tmod b) w hr1.1 hr1.2
  have hmb : ∀ w, Calls Try.prog 29 #[.int .i64 b] w fun e w' => e = .returned (.int .u64 mb) ∧ w = w' := by rw [hmbe]; exact fun w => magnitude_any b w (by unfold okI at hb0; omega) (by unfold okI at hb0; omega)
  have l1 : 0 ≤ mr := by omega
  have l2 : mr < mb := by omega
  have l3 : mb ≤ 9223372036854775808 := by unfold okI at hb0; omega
  have cr := hid hmr
  have cb := hid hmb
  clear hmr hmb
  by_cases h1 : (0 < b ∧ 0 < a.tmod b) ∨ (b < 0 ∧ a.tmod b < 0)
  · have g1 : (!(decide (a.tmod b < 0) == decide (b < 0))) = false := by rw [Bool.not_eq_false', beq_iff_eq, decide_eq_decide]; omega
    by_cases h2 : mb ≤ 2 * mr
    · have hf := hid (rd_up a b hb h1 (by omega))
      have hk : okI (rd a b) := by rw [hf.out]; unfold okI; omega
      have hqv := hid (qv_ok hb hk)
      have hqe := hid (qe_ok hb hk)
      have g2 : mb - mr ≤ mr := by omega
      clear h0 hov hab hb ha hb0 h1 hok hk tp tn hr1 h2 hmre hmbe
      go_enter Try.func13, Try.ntmps13
      go_wp2_with fail
      refine (hc.out _).mono ?_
      rintro e w' ⟨rfl, n, rfl⟩
      go_wp2_with fail
      refine (cr.out _).mono ?_
      rintro e w' ⟨rfl, rfl⟩
      go_wp2_with fail
      refine (cb.out _).mono ?_
      rintro e w' ⟨rfl, rfl⟩
      go_wp2_with fail
      go_ret2
      exact ⟨ret2 (by rw [hqv.out, hf.out]) (by rw [hqe.out]), Q.drewN (Q.refl _) _⟩
    · have hf := hid (rd_same a b hb h1 (by omega))
      have hk : okI (rd a b) := by rw [hf.out]; exact hok
      have hqv := hid (qv_ok hb hk)
      have hqe := hid (qe_ok hb hk)
      have g2 : ¬ mb - mr ≤ mr := by omega
      clear h0 hov hab hb ha hb0 h1 hok hk tp tn hr1 h2 hmre hmbe
      go_enter Try.func13, Try.ntmps13
      go_wp2_with fail
      refine (hc.out _).mono ?_
      rintro e w' ⟨rfl, n, rfl⟩
      go_wp2_with fail
      refine (cr.out _).mono ?_
      rintro e w' ⟨rfl, rfl⟩
      go_wp2_with fail
      refine (cb.out _).mono ?_
      rintro e w' ⟨rfl, rfl⟩
      go_wp2_with fail
      go_ret2
      exact ⟨ret2 (by rw [hqv.out, hf.out]) (by rw [hqe.out]), Q.drewN (Q.refl _) _⟩
  · have g1 : (!(decide (a.tmod b < 0) == decide (b < 0))) = true := by rw [Bool.not_eq_true', beq_eq_false_iff_ne, ne_eq, decide_eq_decide]; omega
    by_cases h2 : mb < 2 * mr
    · have hf := hid (rd_down a b hb (by omega) (by omega))
      have hk : okI (rd a b) := by rw [hf.out]; unfold okI; omega
      have hqv := hid (qv_ok hb hk)
      have hqe := hid (qe_ok hb hk)
      have g2 : mb - mr < mr := by omega
      clear h0 hov hab hb ha hb0 h1 hok hk tp tn hr1 h2 hmre hmbe
      go_enter Try.func13, Try.ntmps13
      go_wp2_with fail
      refine (hc.out _).mono ?_
      rintro e w' ⟨rfl, n, rfl⟩
      go_wp2_with fail
      refine (cr.out _).mono ?_
      rintro e w' ⟨rfl, rfl⟩
      go_wp2_with fail
      refine (cb.out _).mono ?_
      rintro e w' ⟨rfl, rfl⟩
      go_wp2_with fail
      go_ret2
      exact ⟨ret2 (by rw [hqv.out, hf.out]) (by rw [hqe.out]), Q.drewN (Q.refl _) _⟩
    · have hf := hid (rd_less a b hb (by omega) (by omega))
      have hk : okI (rd a b) := by rw [hf.out]; exact hok
      have hqv := hid (qv_ok hb hk)
      have hqe := hid (qe_ok hb hk)
      have g2 : ¬ mb - mr < mr := by omega
      clear h0 hov hab hb ha hb0 h1 hok hk tp tn hr1 h2 hmre hmbe
      go_enter Try.func13, Try.ntmps13
      go_wp2_with fail
      refine (hc.out _).mono ?_
      rintro e w' ⟨rfl, n, rfl⟩
      go_wp2_with fail
      refine (cr.out _).mono ?_
      rintro e w' ⟨rfl, rfl⟩
      go_wp2_with fail
      refine (cb.out _).mono ?_
      rintro e w' ⟨rfl, rfl⟩
      go_wp2_with fail
      go_ret2
      exact ⟨ret2 (by rw [hqv.out, hf.out]) (by rw [hqe.out]), Q.drewN (Q.refl _) _⟩
end Go.Proofs.Ytjnlbgmfhomepaa.Num
