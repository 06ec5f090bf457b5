/- The contract of MulDiv of layer 1 (num). -/
import Derived.Test.YtjdkgndecnhokaaDivs
import Derived.Test.YtjdkgndecnhokaaDivBits
import Derived.Test.YtjdkgndecnhokaaMulPlain
namespace Go.Proofs.Ytjdkgndecnhokaa.Num
open Go.RowKit
set_option linter.unusedVariables false

set_option maxRecDepth 100000 in
set_option maxHeartbeats 1000000 in
theorem muldiv_any (a b c : Int) (w : World) (ha : okI a) (hb : okI b) (hc : okI c) :
    Calls Try.prog 50 #[.int .i64 a, .int .i64 b, .int .i64 c] w fun e w' => e = .returned (.tuple #[.int .i64 (qv c (fl (a * b) c)), .int .i64 (qe c (fl (a * b) c))]) ∧ Q w w' := by
  by_cases hz : c = 0
  · subst hz
    go_enter Try.func50, Try.ntmps50
    go_wp2
    go_ret2
    exact ⟨ret2 rfl rfl, Q.refl _⟩
  rw [show qv c (fl (a * b) c) = rv (fl (a * b) c) from if_neg hz, show qe c (fl (a * b) c) = re (fl (a * b) c) from if_neg hz]
  have g0 : (c == 0) = false := by rw [beq_eq_false_iff_ne]; exact hz
  unfold okI at ha hb hc
  obtain ⟨x, hx⟩ : ∃ x : Int, x = (a.natAbs : Int) := ⟨_, rfl⟩
  obtain ⟨y, hy⟩ : ∃ x : Int, x = (b.natAbs : Int) := ⟨_, rfl⟩
  obtain ⟨z, hz'⟩ : ∃ x : Int, x = (c.natAbs : Int) := ⟨_, rfl⟩
  have cx : ∀ w, Calls Try.prog 53 #[.int .i64 a] w fun e w' => e = .returned (.int .u64 x) ∧ w = w' := by rw [hx]; exact fun w => magnitude_any a w ha.1 ha.2
  have cy : ∀ w, Calls Try.prog 53 #[.int .i64 b] w fun e w' => e = .returned (.int .u64 y) ∧ w = w' := by rw [hy]; exact fun w => magnitude_any b w hb.1 hb.2
  have cz : ∀ w, Calls Try.prog 53 #[.int .i64 c] w fun e w' => e = .returned (.int .u64 z) ∧ w = w' := by rw [hz']; exact fun w => magnitude_any c w hc.1 hc.2
  obtain ⟨p1, p2, p3, _⟩ := md_parts a b c _ _ hz rfl rfl
  rw [← hx, ← hy, ← hz'] at p1 p2 p3
  have x0 : 0 ≤ x ∧ x ≤ 9223372036854775808 := by omega
  have y0 : 0 ≤ y ∧ y ≤ 9223372036854775808 := by omega
  have z0 : 0 < z ∧ z ≤ 9223372036854775808 := by omega
  clear hx hy hz' hz ha hb hc
  obtain ⟨b0, b1⟩ := prod_bd x y x0.1 x0.2 y0.1 y0.2
  obtain ⟨P, hP⟩ : ∃ P : Int, P = x * y := ⟨_, rfl⟩
  obtain ⟨h, hh⟩ : ∃ h : Int, h = P / 18446744073709551616 := ⟨_, rfl⟩
  obtain ⟨l, hl⟩ : ∃ l : Int, l = P % 18446744073709551616 := ⟨_, rfl⟩
  have cm : ∀ w, Calls Try.prog 54 #[.int .u64 x, .int .u64 y] w fun e w' => e = .returned (.tuple #[.int .u64 h, .int .u64 l]) ∧ w = w' := by
    rw [hh, hl, hP]; exact fun w => mul64_any x y w x0.1 y0.1 (by omega) (by omega)
  rw [← hP] at p1 p2 p3 b0 b1
  clear hP
  have l0 : 0 ≤ l ∧ l ≤ 18446744073709551615 := by omega
  have h0 : 0 ≤ h ∧ h ≤ 18446744073709551615 := by omega
  have hPe : P = h * 18446744073709551616 + l := by omega
  have hcx := hid cx
  have hcy := hid cy
  have hcz := hid cz
  have hcm := hid cm
  clear cx cy cz cm
  by_cases hA : z ≤ h
  · have hf := hid (md_over a b c P z h l hPe (by omega) hA p1 p2 p3)
    clear p1 p2 p3 hPe b0 b1 hh hl
    go_enter Try.func50, Try.ntmps50
    go_wp2_with fail
    refine (hcx.out _).mono ?_
    rintro e w' ⟨rfl, rfl⟩
    go_wp2_with fail
    refine (hcy.out _).mono ?_
    rintro e w' ⟨rfl, rfl⟩
    go_wp2_with fail
    refine (hcm.out _).mono ?_
    rintro e w' ⟨rfl, rfl⟩
    go_wp2_with fail
    refine (hcz.out _).mono ?_
    rintro e w' ⟨rfl, rfl⟩
    go_wp2_with fail
    go_ret2
    exact ⟨ret2 (by rw [rv_no hf.out]) (by rw [re_no hf.out]), Q.refl _⟩
  have cd : ∀ w, Calls Try.prog 55 #[.int .u64 h, .int .u64 l, .int .u64 z] w fun e w' => e = .returned (.tuple #[.int .u64 (P / z), .int .u64 (P % z)]) ∧ Q w w' := by
    rw [hPe]; exact fun w => div64_any h l z w h0.1 (by omega) (by omega) l0.1 l0.2
  have u1 : P / z < 18446744073709551616 := (Int.ediv_lt_iff_lt_mul (by omega)).2 (by omega)
  have u0 : 0 ≤ P / z := Int.ediv_nonneg b0 (by omega)
  have r0 : 0 ≤ P % z := Int.emod_nonneg _ (by omega)
  generalize P / z = u at *
  generalize P % z = r at *
  have hcd := hid cd
  clear cd hPe hh hl b0 b1
  cases hn : ng a b c
  · have hf := hid (p1 hn)
    clear p1 p2 p3
    unfold ng at hn
    go_enter Try.func50, Try.ntmps50
    go_wp2_with fail
    refine (hcx.out _).mono ?_
    rintro e w' ⟨rfl, rfl⟩
    go_wp2_with fail
    refine (hcy.out _).mono ?_
    rintro e w' ⟨rfl, rfl⟩
    go_wp2_with fail
    refine (hcm.out _).mono ?_
    rintro e w' ⟨rfl, rfl⟩
    go_wp2_with fail
    refine (hcz.out _).mono ?_
    rintro e w' ⟨rfl, rfl⟩
    go_wp2_with fail
    refine (hcd.out _).mono ?_
    rintro e w' ⟨rfl, n, rfl⟩
    go_wp2_with fail
    refine (signed_any u false _ (by omega) (by omega)).mono ?_
    rintro e w' ⟨rfl, rfl⟩
    go_wp2_with fail
    go_ret2
    exact ⟨ret2 (by rw [hf.out]) (by rw [hf.out]), Q.drewN (Q.refl _) _⟩
  · by_cases hr : r = 0
    · have hf := hid (p2 hn hr)
      clear p1 p2 p3
      unfold ng at hn
      have gr : (r != 0) = false := by rw [bne_eq_false_iff_eq]; exact hr
      clear hr
      go_enter Try.func50, Try.ntmps50
      go_wp2_with fail
      refine (hcx.out _).mono ?_
      rintro e w' ⟨rfl, rfl⟩
      go_wp2_with fail
      refine (hcy.out _).mono ?_
      rintro e w' ⟨rfl, rfl⟩
      go_wp2_with fail
      refine (hcm.out _).mono ?_
      rintro e w' ⟨rfl, rfl⟩
      go_wp2_with fail
      refine (hcz.out _).mono ?_
      rintro e w' ⟨rfl, rfl⟩
      go_wp2_with fail
      refine (hcd.out _).mono ?_
      rintro e w' ⟨rfl, n, rfl⟩
      go_wp2_with fail
      refine (signed_any u true _ (by omega) (by omega)).mono ?_
      rintro e w' ⟨rfl, rfl⟩
      go_wp2_with fail
      go_ret2
      exact ⟨ret2 (by rw [hf.out]) (by rw [hf.out]), Q.drewN (Q.refl _) _⟩
    · have gr : (r != 0) = true := by rw [bne_iff_ne]; exact hr
      have hf := hid (p3 hn (by omega))
      clear p1 p2 p3 hr
      unfold ng at hn
      by_cases hm : u = 18446744073709551615
      · have hk := hid (show ¬ okI (fl (a * b) c) by rw [hf.out, hm]; decide)
        have gm : (u == 18446744073709551615) = true := by rw [beq_iff_eq]; exact hm
        clear hm
        go_enter Try.func50, Try.ntmps50
        go_wp2_with fail
        refine (hcx.out _).mono ?_
        rintro e w' ⟨rfl, rfl⟩
        go_wp2_with fail
        refine (hcy.out _).mono ?_
        rintro e w' ⟨rfl, rfl⟩
        go_wp2_with fail
        refine (hcm.out _).mono ?_
        rintro e w' ⟨rfl, rfl⟩
        go_wp2_with fail
        refine (hcz.out _).mono ?_
        rintro e w' ⟨rfl, rfl⟩
        go_wp2_with fail
        refine (hcd.out _).mono ?_
        rintro e w' ⟨rfl, n, rfl⟩
        go_wp2_with fail
        go_ret2
        exact ⟨ret2 (by rw [rv_no hk.out]) (by rw [re_no hk.out]), Q.drewN (Q.refl _) _⟩
      · have gm : (u == 18446744073709551615) = false := by rw [beq_eq_false_iff_ne]; exact hm
        have um : u ≤ 18446744073709551614 := by omega
        clear hm
        go_enter Try.func50, Try.ntmps50
        go_wp2_with fail
        refine (hcx.out _).mono ?_
        rintro e w' ⟨rfl, rfl⟩
        go_wp2_with fail
        refine (hcy.out _).mono ?_
        rintro e w' ⟨rfl, rfl⟩
        go_wp2_with fail
        refine (hcm.out _).mono ?_
        rintro e w' ⟨rfl, rfl⟩
        go_wp2_with fail
        refine (hcz.out _).mono ?_
        rintro e w' ⟨rfl, rfl⟩
        go_wp2_with fail
        refine (hcd.out _).mono ?_
        rintro e w' ⟨rfl, n, rfl⟩
        go_wp2_with fail
        refine (signed_any (u + 1) true _ (by omega) (by omega)).mono ?_
        rintro e w' ⟨rfl, rfl⟩
        go_wp2_with fail
        go_ret2
        exact ⟨ret2 (by rw [hf.out]) (by rw [hf.out]), Q.drewN (Q.refl _) _⟩
end Go.Proofs.Ytjdkgndecnhokaa.Num
